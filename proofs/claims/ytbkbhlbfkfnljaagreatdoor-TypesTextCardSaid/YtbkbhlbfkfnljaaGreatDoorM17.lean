/- The program: the closure that compares tokens one by one; Front. -/
import Derived.Shelf.Abstract
import Derived.Test.YtbkbhlbfkfnljaaGreatDoorM14
import Derived.Test.YtbkbhlbfkfnljaaGreatDoorM16
set_option linter.unusedVariables false
set_option linter.unusedSimpArgs false
set_option linter.unusedVariables false
set_option linter.unusedSimpArgs false
namespace Go.Proofs.YtbkbhlbfkfnljaaGreatDoor
open Go Go.RowKit L8 L9

theorem below_g9 {n b : Nat} {w w' : World} (h : w.grownBy w' (some b)) (hb : n ≤ b) (hn : n ≤ w.heap.size) : Below n w w' :=
  ⟨h.os, h.tape, h.output, h.size, fun k hk => h.block k (by omega) (fun e => by injection e with e; omega)⟩
theorem following_any (A : Option Addr) (m c : Nat) (w : World) : Calls Tryz.prog 31 #[.slice A m c] w fun e w' => e = .returned (.func (.func 50) #[] #[.pointer (some ⟨w.heap.size, 0, none⟩), .pointer (some ⟨w.heap.size + 1, 0, none⟩)]) ∧ w' = (w.alloc (.cells #[.slice A m c] 25)).alloc (.cells #[.int .i64 0] 3) := by
  have hmf : ∀ (fn : Fn) (first cap : Array Value) (w : World), (Instr.makeFunc fn first cap).run Tryz.prog w = .ok (.func fn first cap) w := fun _ _ _ _ => rfl
  go_enter Tryz.func31, Tryz.ntmps31
  go_wp2
  go_ret
  exact ⟨rfl, rfl⟩
theorem isT_parts (x y : Tk) : isT x y = (decide (x.k = y.k) && (decide (x.tx = y.tx) && decide (x.n = y.n))) := by
  unfold isT
  by_cases h1 : x.k = y.k <;> by_cases h2 : x.tx = y.tx <;> by_cases h3 : x.n = y.n <;> simp [h1, h2, h3]
/-- What is known in the closure: the counter, and the boxes of its two tokens. -/
def Fk (w V : World) (q j : Nat) (y x : Tk) : Prop := w.grownBy V (some q) ∧ BoxS V q 3 #[.int .i64 ((j : Int) + 1)] ∧ BoxS V w.heap.size 39 #[.int .u8 (y.k : Int), .int .i64 y.a, .string (strOf y.tx), .int .i32 y.n] ∧ BoxS V (w.heap.size + 1) 39 #[.int .u8 (x.k : Int), .int .i64 x.a, .string (strOf x.tx), .int .i32 x.n]
theorem g_set9 (w : World) (q j : Nat) (v : Value) : w.grownBy (w.setCell ⟨q, j, none⟩ v) (some q) :=
  ⟨rfl, rfl, rfl, by simp, fun k hk hr => Below.heap_setCell w ⟨q, j, none⟩ v k (fun e => hr (by rw [e]))⟩
theorem box1_set {w : World} {q : Nat} {t : TypeId} {a : Value} (h : BoxS w q t #[a]) (v : Value) : BoxS (w.setCell ⟨q, 0, none⟩ v) q t #[v] := by
  unfold BoxS at *
  simp [World.setCell, h, Array.getElem?_modify]
theorem Fk.new {w : World} {q j : Nat} (y x : Tk) (h : BoxS w q 3 #[.int .i64 (j : Int)]) : Fk w (((w.setCell ⟨q, 0, none⟩ (.int .i64 ((j : Int) + 1))).alloc (.cells #[.int .u8 (y.k : Int), .int .i64 y.a, .string (strOf y.tx), .int .i32 y.n] 39)).alloc (.cells #[.int .u8 (x.k : Int), .int .i64 x.a, .string (strOf x.tx), .int .i32 x.n] 39)) q j y x := by
  have h1 := box1_set h (.int .i64 ((j : Int) + 1))
  have hs : (w.setCell ⟨q, 0, none⟩ (.int .i64 ((j : Int) + 1))).heap.size = w.heap.size := by simp
  refine ⟨g_trans (g_trans (g_set9 w q 0 _) (World.grownBy_alloc _ _ _)) (World.grownBy_alloc _ _ _), (h1.alloc _).alloc _, ?_, ?_⟩
  · have := boxS_new (w.setCell ⟨q, 0, none⟩ (.int .i64 ((j : Int) + 1))) 39 #[.int .u8 (y.k : Int), .int .i64 y.a, .string (strOf y.tx), .int .i32 y.n]
    rw [hs] at this
    exact this.alloc _
  · have := boxS_new ((w.setCell ⟨q, 0, none⟩ (.int .i64 ((j : Int) + 1))).alloc (.cells #[.int .u8 (y.k : Int), .int .i64 y.a, .string (strOf y.tx), .int .i32 y.n] 39)) 39 #[.int .u8 (x.k : Int), .int .i64 x.a, .string (strOf x.tx), .int .i32 x.n]
    rw [World.size_alloc, hs] at this
    exact this
set_option maxRecDepth 100000 in
set_option maxHeartbeats 8000000 in
theorem follows_any (y : Tk) {A : Option Addr} {c m j p q : Nat} {xs : List Tk} {w : World} (R : RR w A c xs) (hm : xs.length = m) (hj : j < m) (hp : BoxS w p 25 #[.slice A m c]) (hq : BoxS w q 3 #[.int .i64 (j : Int)]) :
    Calls Tryz.prog 50 #[rwV y, .pointer (some ⟨p, 0, none⟩), .pointer (some ⟨q, 0, none⟩)] w fun e w' => e = .returned (.bool (isT (xs.getD j r0) y)) ∧ BoxS w' q 3 #[.int .i64 ((j : Int) + 1)] ∧ w.grownBy w' (some q) := by
  have hmx : m ≤ maxLen := by have := R.le; have := R.mx; omega
  unfold maxLen at hmx
  obtain ⟨ad, rfl, c0, c1, c2, c3⟩ := R.rd j (by omega)
  have HV := Lib.hid (Fk.new y (xs.getD j r0) hq)
  have hP := hp.lt
  have hQ := hq.lt
  have hA := g_lt c0
  have e0 : w.cell? ⟨p, 0, none⟩ = some (.slice (some ad) m c) := (hp.cell 0).trans rfl
  have e1 : w.cell? ⟨q, 0, none⟩ = some (.int .i64 (j : Int)) := (hq.cell 0).trans rfl
  have e2 : w.frozen? ⟨q, 0, none⟩ = false := hq.frozen 0
  have hj0 : (0 : Int) ≤ (j : Int) := by omega
  have hjm : (j : Int) < (m : Int) := by omega
  have HE := Lib.hid (fun V (H : Fk w V q j y (xs.getD j r0)) => And.intro H.2.1 H.1)
  clear R hm hp hq hj
  generalize xs.getD j r0 = x at *
  rw [isT_parts]
  obtain ⟨k, a, tx, n⟩ := x
  obtain ⟨k', a', tx', n'⟩ := y
  dsimp only [rwV] at *
  have qk : ((k : Int) == (k' : Int)) = decide (k = k') := nat_eq k k'
  have qs := eqS tx tx'
  have qn : (n == n') = decide (n = n') := by by_cases h : n = n' <;> simp [h]
  generalize decide (k = k') = b1 at *
  generalize decide (tx = tx') = b2 at *
  generalize decide (n = n') = b3 at *
  generalize strOf tx = S at *
  generalize strOf tx' = S' at *
  cases b1 <;> cases b2
  all_goals
    go_enter Tryz.func50, Tryz.ntmps50
    go_wp2
    go_ret
    exact ⟨rfl, HE.out _ HV.out⟩
theorem okt_guess {xs : List Tk} (h : OKL xs) : OKt (guessT xs) := by
  have hd : -9223372036854775808 ≤ dimG xs ∧ dimG xs ≤ 9223372036854775807 := by
    unfold dimG
    split
    · have := (h.get 1).2.2; omega
    · omega
  have hr : OKL (restG xs) := by
    unfold restG
    split
    · exact fun x hx => h x (List.mem_of_mem_drop hx)
    · exact h
  have hk : kindG (restG xs) ≤ 5 := by unfold kindG; split <;> first | exact kOf_le _ | omega
  have h2 := kOf_le ((restG xs).getD 2 r0).tx
  have h3 := (hr.get 2).1
  unfold guessT tyG OKt
  split
  · split
    · exact ⟨by show (4 : Nat) < 256; decide, by dsimp only; omega, by simp [maxLen], hd.1, hd.2⟩
    · exact ⟨by show (4 : Nat) < 256; decide, by dsimp only; omega, h3, hd.1, hd.2⟩
  · exact ⟨by dsimp only; omega, by dsimp only; omega, by simp [maxLen], hd.1, hd.2⟩
/-- What is known in the loop: what has been before it stays; the closure's slice, and its counter. -/
def FlS (W X : World) (A : Option Addr) (m c j : Nat) : Prop := Below W.heap.size W X ∧ BoxS X W.heap.size 25 #[.slice A m c] ∧ BoxS X (W.heap.size + 1) 3 #[.int .i64 (j : Int)]
theorem FlS.new (W : World) (A : Option Addr) (m c : Nat) : FlS W ((W.alloc (.cells #[.slice A m c] 25)).alloc (.cells #[.int .i64 0] 3)) A m c 0 := by
  refine ⟨bal (bal (b0 W) _) _, (boxS_new W _ _).alloc _, ?_⟩
  have := boxS_new (W.alloc (.cells #[.slice A m c] 25)) 3 #[.int .i64 0]
  rw [World.size_alloc] at this
  exact this
theorem FlS.step {W X Y : World} {A : Option Addr} {m c j : Nat} (h : FlS W X A m c j) (b : Below X.heap.size X Y) : FlS W Y A m c j := ⟨blw h.1 b, h.2.1.below b, h.2.2.below b⟩
theorem FlS.turn {W X Y : World} {A : Option Addr} {m c j : Nat} (h : FlS W X A m c j) (hq : BoxS Y (W.heap.size + 1) 3 #[.int .i64 ((j : Int) + 1)]) (g : X.grownBy Y (some (W.heap.size + 1))) : FlS W Y A m c (j + 1) :=
  ⟨h.1.trans (below_g9 g (by omega) h.1.size), h.2.1.kept g (fun e => by injection e with e; omega), by rw [show ((j + 1 : Nat) : Int) = (j : Int) + 1 by omega]; exact hq⟩
theorem FlS.bel {W X : World} {A : Option Addr} {m c j : Nat} (h : FlS W X A m c j) : Below W.heap.size W X := h.1
/-- What is known when the guessed type's tokens have been made. -/
def FgS (w W : World) (g : Ty) (b : Nat) (A : Option Addr) (c : Nat) (xs : List Tk) : Prop := FrS w W ∧ BoxS W b 24 (tyC g) ∧ RR W A c xs
theorem FgS.step {w W X : World} {g : Ty} {b c : Nat} {A : Option Addr} {xs : List Tk} (h : FgS w W g b A c xs) (k : Below W.heap.size W X) : FgS w X g b A c xs := ⟨h.1.step k, h.2.1.below k, h.2.2.keep k⟩
theorem FgS.fr {w W : World} {g : Ty} {b c : Nat} {A : Option Addr} {xs : List Tk} (h : FgS w W g b A c xs) : FrS w W := h.1
theorem FgS.bel {w W : World} {g : Ty} {b c : Nat} {A : Option Addr} {xs : List Tk} (h : FgS w W g b A c xs) : Below w.heap.size w W := h.1.1
theorem FgS.rr {w W : World} {g : Ty} {b c : Nat} {A : Option Addr} {xs : List Tk} (h : FgS w W g b A c xs) : RR W A c xs := h.2.2
theorem FgS.gt {w W : World} {g : Ty} {b c : Nat} {A : Option Addr} {xs : List Tk} (h : FgS w W g b A c xs) : W.cell? ⟨b, 0, none⟩ = some (.int .u8 (g.k : Int)) ∧ W.cell? ⟨b, 1, none⟩ = some (.int .i64 g.d) ∧ W.cell? ⟨b, 2, none⟩ = some (.int .u8 (g.i : Int)) ∧ W.cell? ⟨b, 3, none⟩ = some (.string (strOf g.p)) := (box4T h.2.1).1
theorem okl_tokT9 {t : Ty} : OKL (tokensT t).1 := by
  unfold tokensT
  split
  · rename_i h
    exact fun x hx => may_okx9 (tok_may h x hx).1 (tok_may h x hx).2
  · exact OKL.nil
set_option maxRecDepth 100000 in
set_option maxHeartbeats 16000000 in
theorem PFront_any {A : Option Addr} {c m : Nat} {xs : List Tk} {w : World} (R : RR w A c xs) (hm : xs.length = m) (ht : T9 w) : Calls Tryz.prog 9 #[.slice A m c] w (GivesFr w (frontR xs)) := by
  have HV : Hid (FrS w (w.alloc (.cells #[.int .u8 0, .int .i64 0, .int .u8 0, .string ⟨#[]⟩] 24))) := Lib.hid ⟨bal (b0 w) _, boxS_new w _ _⟩
  have HT := Lib.hid (fun (X : World) (b : Below w.heap.size w X) => ht.below b)
  have HR := Lib.hid R
  have HM := Lib.hid hm
  have hmx : m ≤ maxLen := by have := R.le; have := R.mx; omega
  unfold maxLen at hmx
  have CG := Lib.hid (PGuess_any (R.keep HV.out.bel) hm (HT.out _ HV.out.bel))
  have hok := okt_guess R.ok
  have HYes := Lib.hid (fun (h : mayT (guessT xs) = true) (g : ∀ j, j < (tokT (guessT xs)).length → isT (xs.getD j r0) ((tokT (guessT xs)).getD j r0) = true) => frontG_yes h (pre_true (guess_len h) g))
  have HNo := Lib.hid (fun (j : Nat) (hj : j < (tokT (guessT xs)).length) (h : isT (xs.getD j r0) ((tokT (guessT xs)).getD j r0) = false) => frontG_no (l := xs) (fun _ => pre_false j hj h))
  have HBad := Lib.hid (fun (h : mayT (guessT xs) = false) => frontG_no (l := xs) (fun g => by rw [h] at g; cases g))
  have HLen := Lib.hid (guess_len (l := xs))
  have hent : ∀ (args : Array Value) (W : World), (callFunc 50 args).run Tryz.prog W = .ok (.enter 50 args) W := enters_of Tryz.func50 (by kernel_rfl) rfl
  have CT : Hid (∀ (W : World), T9 W → Calls Tryz.prog 4 #[tyV (guessT xs)] W fun e w' => ∃ A2 c2, e = .returned (.tuple #[.slice A2 (tokensT (guessT xs)).1.length c2, .int .i64 (tokensT (guessT xs)).2]) ∧ RR w' A2 c2 (tokensT (guessT xs)).1 ∧ Below W.heap.size W w') := Lib.hid fun W h => (PTok_any (guessT xs) hok W h).mono fun e w' ⟨A2, c2, h, o, b⟩ => ⟨A2, c2, h, o.rr okl_tokT9, b⟩
  clear R hm ht hok
  unfold GivesFr
  generalize guessT xs = g at *
  cases hmay : mayT g with
  | false =>
    have hte : tokensT g = ([], 2) := by unfold tokensT; rw [hmay]; rfl
    rw [hte] at CT
    rw [HBad.out hmay]
    clear HYes HNo HBad HLen hmay hte
    dsimp only [tyV, tyC, List.length_nil, t0] at *
    generalize strOf g.p = S at *
    rw [show strOf [] = ⟨#[]⟩ from rfl]
    go_enter Tryz.func9, Tryz.ntmps9
    go_wp2_with (first
      | (go_at_call 30; (with_reducible refine (CG.out).mono ?_); rintro e v1 ⟨rfl, b⟩; have H1 := Lib.hid ((HV.out.step b).step (bal (b0 _) (.cells #[.int .u8 (g.k : Int), .int .i64 g.d, .int .u8 (g.i : Int), .string S] 24))); clear b)
      | (go_at_call 4; (with_reducible refine (CT.out _ (HT.out _ H1.out.bel)).mono ?_); rintro e v2 ⟨A2, c2, rfl, r, b⟩; have H2 := Lib.hid (H1.out.step b); clear b r; obtain ⟨⟨z0, z1, z2, z3⟩, zl⟩ := box4 H2.out.2; obtain ⟨f0, f1, f2, f3⟩ := box4f H2.out.2))
    have HF := Lib.hid (And.intro (box4_all (.int .u8 0) (.int .i64 0) (.int .u8 0) (.string ⟨#[]⟩) H2.out.2) (bset4 H2.out.1 (Nat.le_refl _) (.int .u8 0) (.int .i64 0) (.int .u8 0) (.string ⟨#[]⟩)))
    unfold set4 at HF
    clear z0 z1 z2 z3 f0 f1 f2 f3
    generalize (((v2.setCell ⟨w.heap.size, 0, none⟩ (.int .u8 0)).setCell ⟨w.heap.size, 1, none⟩ (.int .i64 0)).setCell ⟨w.heap.size, 2, none⟩ (.int .u8 0)).setCell ⟨w.heap.size, 3, none⟩ (.string ⟨#[]⟩) = W5 at *
    obtain ⟨⟨y0, y1, y2, y3⟩, yl⟩ := box4 HF.out.1
    refine bodyPost_ret (v := .tuple #[.agg #[.int .u8 0, .int .i64 0, .int .u8 0, .string ⟨#[]⟩], .int .i64 0, .int .i64 90]) (by simp [results, Tryz.results9, go_sem, y0, y1, y2, y3]) rfl ⟨rfl, HF.out.2⟩
  | true =>
    have hte : tokensT g = (tokT g, 0) := by unfold tokensT; rw [if_pos hmay]
    rw [hte] at CT
    have hY := HYes.out hmay
    have hle := HLen.out hmay
    rw [HM.out] at hle
    clear HYes HBad HLen hmay hte
    generalize tokT g = L at *
    dsimp only at CT
    obtain ⟨N, hN⟩ : ∃ N, L.length = N := ⟨_, rfl⟩
    rw [hN] at CT hY HNo hle
    have hN0 : (0 : Int) ≤ (N : Int) := by omega
    have hNm : (N : Int) ≤ (m : Int) := by omega
    have HN := Lib.hid hN
    have HY := Lib.hid hY
    clear hN hY hle
    have CFo : Hid (∀ W : World, Calls Tryz.prog 31 #[.slice A m c] W fun e w' => e = .returned (.func (.func 50) #[] #[.pointer (some ⟨W.heap.size, 0, none⟩), .pointer (some ⟨W.heap.size + 1, 0, none⟩)]) ∧ w' = (W.alloc (.cells #[.slice A m c] 25)).alloc (.cells #[.int .i64 0] 3)) := Lib.hid fun W => following_any A m c W
    generalize frontR xs = G at *
    dsimp only [tyV, tyC] at *
    have HGt := Lib.hid (fun (X : World) (b : Nat) (h : FgS w X g b A c xs) => h.gt)
    have HMk : Hid (∀ (X : World) (b : Nat), FrS w X → BoxS X b 24 #[.int .u8 (g.k : Int), .int .i64 g.d, .int .u8 (g.i : Int), .string (strOf g.p)] → FgS w X g b A c xs) := Lib.hid fun X b h k => ⟨h, k, HR.out.keep h.1⟩
    generalize hS : strOf g.p = S at *
    have HS := Lib.hid hS
    clear hS
    go_enter Tryz.func9, Tryz.ntmps9
    go_wp2_with (first
      | (go_at_call 30; (with_reducible refine (CG.out).mono ?_); rintro e v1 ⟨rfl, b⟩; have H1 := Lib.hid (HMk.out _ v1.heap.size ((HV.out.step b).step (bal (b0 _) (.cells #[.int .u8 (g.k : Int), .int .i64 g.d, .int .u8 (g.i : Int), .string S] 24))) (boxS_new v1 _ _)); clear b)
      | (go_at_call 4; (with_reducible refine (CT.out _ (HT.out _ H1.out.bel)).mono ?_); rintro e v2 ⟨A2, c2, rfl, r, b⟩; have H2 := Lib.hid (And.intro (H1.out.step b) r); clear b r)
      | (go_at_call 31; (with_reducible refine (CFo.out _).mono ?_); rintro e v3 ⟨rfl, rfl⟩))
    have HW := Lib.hid (FlS.new v2 A m c)
    have CX : Hid (∀ (X : World) (j : Nat), FlS v2 X A m c j → j < N → Calls Tryz.prog 50 #[rwV (L.getD j r0), .pointer (some ⟨v2.heap.size, 0, none⟩), .pointer (some ⟨v2.heap.size + 1, 0, none⟩)] X fun e w' => e = .returned (.bool (isT (xs.getD j r0) (L.getD j r0))) ∧ FlS v2 w' A m c (j + 1)) := Lib.hid fun X j h hj => (follows_any (L.getD j r0) ((H2.out.1.rr).keep h.1) HM.out (by omega) h.2.1 h.2.2).mono fun e w' k => ⟨k.1, h.turn k.2.1 k.2.2⟩
    clear CG CT CFo HV
    generalize (v2.alloc (.cells #[.slice A m c] 25)).alloc (.cells #[.int .i64 0] 3) = V at *
    go_loopw [24] (fun i wr => ∃ j : Nat, j ≤ N ∧ i = .int .i64 j ∧ Hid (FlS v2 wr A m c j ∧ ∀ i, i < j → isT (xs.getD i r0) (L.getD i r0) = true)) (fun i _ => N - (intOf i).toNat)
    case atStart => exact ⟨0, Nat.zero_le _, rfl, Lib.hid ⟨HW.out, fun i hi => absurd hi (by omega)⟩⟩
    case round =>
      obtain ⟨j, hj, rfl, H⟩ := hrel
      have hj0 : (0 : Int) ≤ (j : Int) := by omega
      by_cases hlt : (j : Int) < (N : Int)
      · obtain ⟨ad, rfl, x0, x1, x2, x3⟩ := (H2.out.2.keep H.out.1.bel).rd j (by have := HN.out; omega)
        have C := Lib.hid (CX.out (wr.alloc (.cells (rwC (L.getD j r0)).toArray 39)) j (H.out.1.step (bal (b0 _) _)) (by omega))
        have hno := HNo.out j (by omega)
        have HJ := Lib.hid (show isT (xs.getD j r0) (L.getD j r0) = true → ∀ i, i < j + 1 → isT (xs.getD i r0) (L.getD i r0) = true from fun h i hi => if h2 : i < j then H.out.2 i h2 else by rw [show i = j by omega]; exact h)
        rw [rwV_eq9] at C
        unfold rwC at C
        generalize isT (xs.getD j r0) (L.getD j r0) = b at *
        clear H
        generalize L.getD j r0 = x at *
        generalize strOf x.tx = SX at *
        cases b with
        | false =>
          have HE := Lib.hid (hno rfl)
          clear hno
          go_wp2_with (go_at_call 50; (with_reducible refine (C.out).mono ?_); rintro e v4 ⟨rfl, b⟩; have H4 := Lib.hid (H2.out.1.fr.step b.bel); clear b; obtain ⟨⟨z0, z1, z2, z3⟩, zl⟩ := box4 H4.out.2; obtain ⟨f0, f1, f2, f3⟩ := box4f H4.out.2)
          have HF := Lib.hid (And.intro (box4_all (.int .u8 0) (.int .i64 0) (.int .u8 0) (.string ⟨#[]⟩) H4.out.2) (bset4 H4.out.1 (Nat.le_refl _) (.int .u8 0) (.int .i64 0) (.int .u8 0) (.string ⟨#[]⟩)))
          unfold set4 at HF
          clear z0 z1 z2 z3 f0 f1 f2 f3
          generalize (((v4.setCell ⟨w.heap.size, 0, none⟩ (.int .u8 0)).setCell ⟨w.heap.size, 1, none⟩ (.int .i64 0)).setCell ⟨w.heap.size, 2, none⟩ (.int .u8 0)).setCell ⟨w.heap.size, 3, none⟩ (.string ⟨#[]⟩) = W5 at *
          obtain ⟨⟨y0, y1, y2, y3⟩, yl⟩ := box4 HF.out.1
          rw [HE.out]
          refine bodyPost_ret (v := .tuple #[.agg #[.int .u8 0, .int .i64 0, .int .u8 0, .string ⟨#[]⟩], .int .i64 0, .int .i64 90]) (by simp [results, Tryz.results9, go_sem, y0, y1, y2, y3]) rfl ⟨rfl, HF.out.2⟩
        | true =>
          have HY2 := Lib.hid (HJ.out rfl)
          clear hno
          go_wp2_with (go_at_call 50; (with_reducible refine (C.out).mono ?_); rintro e v4 ⟨rfl, b⟩; have H4 := Lib.hid (And.intro b HY2.out); clear b)
          go_roundw
          case rel => exact ⟨j + 1, by omega, by go_num, H4⟩
          case measure => simp [intOf]; omega
      · obtain rfl : j = N := by omega
        have HE := Lib.hid (HY.out H.out.2)
        have H4 := Lib.hid (H2.out.1.step H.out.1.bel)
        clear H
        obtain ⟨t0, t1, t2, t3⟩ := HGt.out _ _ H4.out
        obtain ⟨⟨z0, z1, z2, z3⟩, zl⟩ := box4 H4.out.fr.2
        obtain ⟨f0, f1, f2, f3⟩ := box4f H4.out.fr.2
        go_wp2
        have HF := Lib.hid (And.intro (box4_all (.int .u8 (g.k : Int)) (.int .i64 g.d) (.int .u8 (g.i : Int)) (.string S) H4.out.fr.2) (bset4 H4.out.fr.1 (Nat.le_refl _) (.int .u8 (g.k : Int)) (.int .i64 g.d) (.int .u8 (g.i : Int)) (.string S)))
        unfold set4 at HF
        clear z0 z1 z2 z3 f0 f1 f2 f3
        generalize (((wr.setCell ⟨w.heap.size, 0, none⟩ (.int .u8 (g.k : Int))).setCell ⟨w.heap.size, 1, none⟩ (.int .i64 g.d)).setCell ⟨w.heap.size, 2, none⟩ (.int .u8 (g.i : Int))).setCell ⟨w.heap.size, 3, none⟩ (.string S) = W5 at *
        obtain ⟨⟨y0, y1, y2, y3⟩, yl⟩ := box4 HF.out.1
        rw [HE.out]
        refine bodyPost_ret (v := .tuple #[.agg #[.int .u8 (g.k : Int), .int .i64 g.d, .int .u8 (g.i : Int), .string S], .int .i64 (j : Int), .int .i64 0]) (by simp [results, Tryz.results9, go_sem, y0, y1, y2, y3]) rfl ⟨by dsimp only; rw [HS.out], HF.out.2⟩
end Go.Proofs.YtbkbhlbfkfnljaaGreatDoor
/- The program's contracts, gathered: PMay_any, PFits_any, PSize_any, PWords_any, PSame_any (Ptb), PMayP_any, PFind_any (Ptc), PTok_any (Ptd), PFront_any (Ptf). -/
namespace Go.Proofs.YtbkbhlbfkfnljaaGreatDoor
end Go.Proofs.YtbkbhlbfkfnljaaGreatDoor
