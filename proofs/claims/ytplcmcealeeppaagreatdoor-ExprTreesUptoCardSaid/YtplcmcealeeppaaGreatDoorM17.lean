/- The program: valid trees (the count), the tokens of a tree. -/
import Derived.Deep.RegionHeld3
import Derived.Defers
import Derived.Recover
import Derived.Test.YtplcmcealeeppaaGreatDoorM13
import Derived.Test.YtplcmcealeeppaaGreatDoorM16
import Derived.Test.YtplcmcealeeppaaGreatDoorM06
import Derived.Test.YtplcmcealeeppaaGreatDoorM01
import Derived.Test.YtplcmcealeeppaaGreatDoorM09
import Derived.Test.YtplcmcealeeppaaGreatDoorM04
set_option linter.unusedVariables false
set_option linter.unusedSimpArgs false
set_option linter.unusedVariables false
set_option linter.unusedSimpArgs false
namespace Go.Proofs.YtplcmcealeeppaaGreatDoor
open Go Go.RowKit L8 L10

/-- The count's box holds s; what is read does not lie in it. -/
structure CkS (w wr : World) (b : Nat) (A : Option Addr) (c : Nat) (l : List Ex) (s : Nat) : Prop where
  grw : w.grownBy wr (some b)
  box : BoxS wr b 66 #[.int .i64 (s : Int)]
  tr : TrN wr (fun k => k ≠ b) A c l
  t10 : T10 wr
theorem CkS.below {w wr wx : World} {b c s : Nat} {A : Option Addr} {l : List Ex} (h : CkS w wr b A c l s) (k : Below wr.heap.size wr wx) : CkS w wx b A c l s := ⟨g_trans h.grw (g_any (g_of_below k) _), h.box.below k, h.tr.keep k, h.t10.below k⟩
theorem CkS.grow {w wr wx : World} {b c s s' : Nat} {A : Option Addr} {l : List Ex} (h : CkS w wr b A c l s) (g : wr.grownBy wx (some b)) (k : BoxS wx b 66 #[.int .i64 (s' : Int)]) : CkS w wx b A c l s' :=
  ⟨g_trans h.grw g, k, h.tr.grow g fun j hj e => by injection e with e; exact hj e, h.t10.grow g h.box (.inl rfl)⟩
theorem CkS.set {w wr : World} {b c s : Nat} {A : Option Addr} {l : List Ex} (h : CkS w wr b A c l s) (q : Nat) : CkS w (wr.setCell ⟨b, 0, none⟩ (.int .i64 (q : Int))) b A c l q := by
  refine h.grow (g_set wr b 0 _) ?_
  have := boxset h.box 0 (.int .i64 (q : Int))
  simpa using this
set_option maxRecDepth 100000 in
set_option maxHeartbeats 8000000 in
theorem cmay_any : ∀ e : Ex, ∀ (A : Option Addr) (n c i s b : Nat) (w : World), TrN w (fun k => k ≠ b) A c e.l → e.l.length = n → OKe e → T10 w → BoxS w b 66 #[.int .i64 (s : Int)] → i ≤ 32 → s ≤ 256 → Calls Tryz.prog 35 #[.pointer (some ⟨b, 0, none⟩), exV e A n c, .int .i64 ((i : Int) + 1)] w fun en w' => en = .returned (.bool (decide (0 ≤ roomE e i (256 - (s : Int))))) ∧ w.grownBy w' (some b) ∧ (∀ u : Nat, roomE e i (256 - (s : Int)) = 256 - (u : Int) → u ≤ 256 → BoxS w' b 66 #[.int .i64 (u : Int)]) := by
  refine Ex.ind fun e ih A n c i s b w R hn hok ht hbx hi hs => ?_
  have hnx : n ≤ maxLen := by have := R.le; have := R.mx; omega
  unfold maxLen at hnx
  have hb := hbx.lt
  have H0 : CkS w w b A c e.l s := ⟨g_refl w _, hbx, R, ht⟩
  have HV : Hid (CkS w ((w.setCell ⟨b, 0, none⟩ (.int .i64 ((s + 1 : Nat) : Int))).alloc (.cells (exC e A n c) 27)) b A c e.l (s + 1)) := Lib.hid ((H0.set (s + 1)).below (bal (b0 _) _))
  have hr := roomE_eq e i (256 - (s : Int))
  have x0 : (w.alloc (.cells (exC e A n c) 27)).cell? ⟨b, 0, none⟩ = some (.int .i64 (s : Int)) := ((hbx.below (bal (b0 w) _)).cell 0).trans rfl
  have f0 : (w.alloc (.cells (exC e A n c) 27)).frozen? ⟨b, 0, none⟩ = false := (hbx.below (bal (b0 w) _)).frozen 0
  have hs0 : (0 : Int) ≤ (s : Int) := by omega
  have hs1 : (s : Int) ≤ 256 := by omega
  have hi0 : (0 : Int) ≤ (i : Int) := by omega
  have hi32 : (i : Int) ≤ 32 := by omega
  have hc : ((s + 1 : Nat) : Int) = (s : Int) + 1 := by omega
  rw [hc] at HV
  have HFalse : Hid (∀ W : World, w.grownBy W (some b) → roomE e i (256 - (s : Int)) = -1 → (Ending.returned (.bool false) = Ending.returned (.bool (decide (0 ≤ roomE e i (256 - (s : Int))))) ∧ w.grownBy W (some b) ∧ (∀ u : Nat, roomE e i (256 - (s : Int)) = 256 - (u : Int) → u ≤ 256 → BoxS W b 66 #[.int .i64 (u : Int)]))) := Lib.hid fun W g h => ⟨by rw [h]; rfl, g, fun u hu h2 => by omega⟩
  have x1 : ((w.setCell ⟨b, 0, none⟩ (.int .i64 ((s : Int) + 1))).alloc (.cells (exC e A n c) 27)).cell? ⟨b, 0, none⟩ = some (.int .i64 ((s : Int) + 1)) := by
    have := (HV.out.box.cell 0).trans rfl
    rwa [hc] at this
  have hsz : (w.setCell ⟨b, 0, none⟩ (.int .i64 ((s : Int) + 1))).heap.size = w.heap.size := by show (w.heap.modify b _).size = _; rw [Array.size_modify]
  have y5 : Hid (BoxS ((w.setCell ⟨b, 0, none⟩ (.int .i64 ((s : Int) + 1))).alloc (.cells (exC e A n c) 27)) w.heap.size 27 (exC e A n c)) := Lib.hid (by have := boxS_new (w.setCell ⟨b, 0, none⟩ (.int .i64 ((s : Int) + 1))) 27 (exC e A n c); rwa [hsz] at this)
  by_cases hz : s = 256
  · have hr1 := Lib.hid (show roomE e i (256 - (s : Int)) = -1 by rw [hr, if_pos (.inr (.inl (by omega)))])
    have hlt : 256 < (s : Int) + 1 := by omega
    clear ih R hok H0 hr hz hc ht hbx hn y5 hsz
    generalize hF : roomE e i (256 - (s : Int)) = F at *
    clear hF
    dsimp only [exV, exC] at *
    generalize strOf e.s = S at *
    go_enter Tryz.func35, Tryz.ntmps35
    go_wp2
    go_ret
    exact HFalse.out _ HV.out.grw hr1.out
  have hs2 : ¬ 256 < (s : Int) + 1 := by omega
  by_cases h32 : i = 32
  · have hr1 := Lib.hid (show roomE e i (256 - (s : Int)) = -1 by rw [hr, if_pos (.inl h32)])
    have hlt : 32 < (i : Int) + 1 := by omega
    clear ih R hok H0 hr hz hc ht hbx hn y5 hsz h32
    generalize hF : roomE e i (256 - (s : Int)) = F at *
    clear hF
    dsimp only [exV, exC] at *
    generalize strOf e.s = S at *
    go_enter Tryz.func35, Tryz.ntmps35
    go_wp2
    go_ret
    exact HFalse.out _ HV.out.grw hr1.out
  have hi2 : ¬ 32 < (i : Int) + 1 := by omega
  have hle1 : (s : Int) + 1 ≤ 256 := by omega
  have hle2 : (i : Int) + 1 ≤ 32 := by omega
  have CO := Lib.hid (fun (W : World) (h : T10 W) => mayAlone_any e A n c W hn hok h)
  have HOwn : Hid (∀ W, Below ((w.setCell ⟨b, 0, none⟩ (.int .i64 ((s : Int) + 1))).alloc (.cells (exC e A n c) 27)).heap.size ((w.setCell ⟨b, 0, none⟩ (.int .i64 ((s : Int) + 1))).alloc (.cells (exC e A n c) 27)) W → BoxS W w.heap.size 27 (exC e A n c) ∧ CkS w W b A c e.l (s + 1)) := Lib.hid fun W k => ⟨y5.out.below k, HV.out.below k⟩
  obtain ⟨z0, z1, z2, z3, z4, z5⟩ := box6 y5.out
  cases ho : ownE e with
  | false =>
    have hr1 := Lib.hid (show roomE e i (256 - (s : Int)) = -1 by rw [hr, if_pos (.inr (.inr ho))])
    rw [ho] at CO
    clear ih R hok H0 hr hz hc ht hbx hn y5 hsz h32 ho
    generalize hF : roomE e i (256 - (s : Int)) = F at *
    clear hF
    dsimp only [exV, exC] at *
    generalize strOf e.s = S at *
    go_enter Tryz.func35, Tryz.ntmps35
    go_wp2_with (go_at_call 56; (with_reducible refine (CO.out _ HV.out.t10).mono ?_); rintro en w2 ⟨rfl, k⟩; have H2 := Lib.hid (HV.out.below k); clear k)
    go_ret
    exact HFalse.out _ H2.out.grw hr1.out
  | true =>
    have hr2 : roomE e i (256 - (s : Int)) = roomL e.l (i + 1) (256 - ((s + 1 : Nat) : Int)) := by rw [hr, if_neg (fun h => h.elim h32 fun h => h.elim (by omega) fun h => by rw [ho] at h; cases h)]; congr 1; omega
    rw [ho] at CO
    have IH2 : Hid (∀ j, j < n → ∀ (B : Option Addr) (m d t : Nat) (X : World), CkS w X b A c e.l t → TrN X (fun k => k ≠ b) B d (e.l.getD j e0).l → (e.l.getD j e0).l.length = m → OKe (e.l.getD j e0) → t ≤ 256 → Calls Tryz.prog 35 #[.pointer (some ⟨b, 0, none⟩), exV (e.l.getD j e0) B m d, .int .i64 ((i : Int) + 1 + 1)] X fun en w' => en = .returned (.bool (decide (0 ≤ roomE (e.l.getD j e0) (i + 1) (256 - (t : Int))))) ∧ X.grownBy w' (some b) ∧ (∀ u : Nat, roomE (e.l.getD j e0) (i + 1) (256 - (t : Int)) = 256 - (u : Int) → u ≤ 256 → BoxS w' b 66 #[.int .i64 (u : Int)])) := Lib.hid fun j hj B m d t X h R2 hm ok ht2 => by
      have := ih _ (getD_memE (by omega)) B m d (i + 1) t b X R2 hm ok h.t10 h.box (by omega) ht2
      rwa [show ((i + 1 : Nat) : Int) = (i : Int) + 1 by omega] at this
    have HS := Lib.hid (fun (j : Nat) (lf : Int) (h : j < n) => show roomL (e.l.drop j) (i + 1) lf = if roomE (e.l.getD j e0) (i + 1) lf < 0 then -1 else roomL (e.l.drop (j + 1)) (i + 1) (roomE (e.l.getD j e0) (i + 1) lf) by rw [drop_one (by omega), roomL])
    have HR := Lib.hid (fun (j : Nat) (lf : Int) (h : 0 ≤ lf) => room_rng (e.l.getD j e0) (i := i + 1) (left := lf) (by omega) h)
    have HEnd := Lib.hid (fun (lf : Int) => show roomL (e.l.drop n) (i + 1) lf = lf by rw [← hn, List.drop_length, roomL])
    have HF := Lib.hid hr2
    have HN := Lib.hid hn
    clear ih R hok H0 hr hz hc ht hbx hn y5 hsz h32 ho hr2
    generalize hF : roomE e i (256 - (s : Int)) = F at *
    clear hF
    dsimp only [exV, exC] at *
    generalize hS : strOf e.s = S at *
    clear hS
    go_enter Tryz.func35, Tryz.ntmps35
    go_wp2_with (go_at_call 56; (with_reducible refine (CO.out _ HV.out.t10).mono ?_); rintro en w2 ⟨rfl, k⟩; have H2 := Lib.hid (HOwn.out _ k); clear k z0 z1 z2 z3 z4 z5; obtain ⟨z0, z1, z2, z3, z4, z5⟩ := box6 H2.out.1)
    go_loopw [33] (fun ι wr => ∃ (j t : Nat), j ≤ n ∧ ι = .int .i64 j ∧ t ≤ 256 ∧ F = roomL (e.l.drop j) (i + 1) (256 - (t : Int)) ∧ Hid (CkS w wr b A c e.l t)) (fun ι _ => n - (intOf ι).toNat)
    case atStart => exact ⟨0, s + 1, Nat.zero_le _, rfl, by omega, HF.out, Lib.hid H2.out.2⟩
    case round =>
      obtain ⟨j, t, hj, rfl, ht, hF, H⟩ := hrel
      have hj0 : (0 : Int) ≤ (j : Int) := by omega
      by_cases hlt : (j : Int) < (n : Int)
      · obtain ⟨ad, rfl, _, B, m, d, hm, hok, Rc, x0, x1, x2, x3, x4, x5⟩ := H.out.tr.at (j := j) (by have := HN.out; omega)
        have h1 := HS.out j (256 - (t : Int)) (by omega)
        have h2 := HR.out j (256 - (t : Int)) (by omega)
        rw [h1] at hF
        have C := Lib.hid (fun (V : World) (h : Below wr.heap.size wr V) => IH2.out j (by omega) B m d t V (H.out.below h) (Rc.keep h) hm hok ht)
        clear Rc hm hok h1
        generalize roomE (e.l.getD j e0) (i + 1) (256 - (t : Int)) = u at *
        generalize e.l.getD j e0 = y at *
        generalize strOf y.s = SY at *
        obtain ⟨u0, u1⟩ := h2
        have C2 := Lib.hid (C.out (wr.alloc (.cells #[.int .u8 (y.k : Int), .int .u8 (y.o : Int), .int .u8 (y.t : Int), .int .i32 y.n, .string SY, .slice B m d] 27)) (bal (b0 wr) _))
        have hA := Lib.hid (H.out.below (bal (b0 wr) (.cells #[.int .u8 (y.k : Int), .int .u8 (y.o : Int), .int .u8 (y.t : Int), .int .i32 y.n, .string SY, .slice B m d] 27)))
        clear C
        by_cases hu : u < 0
        · rw [if_pos hu] at hF
          rw [decide_eq_false (show ¬ 0 ≤ u by omega)] at C2
          have HE := Lib.hid hF
          clear hF
          go_wp2_with (go_at_call 35; (with_reducible refine (C2.out).mono ?_); rintro e1 w3 ⟨rfl, g, _⟩; have H3 := Lib.hid (g_trans hA.out.grw g); clear g)
          go_ret
          exact HFalse.out _ H3.out HE.out
        · rw [if_neg hu] at hF
          rw [decide_eq_true (show 0 ≤ u by omega)] at C2
          obtain ⟨v, hv⟩ : ∃ v : Nat, u = 256 - (v : Int) := ⟨(256 - u).toNat, by omega⟩
          have HE := Lib.hid (show F = roomL (e.l.drop (j + 1)) (i + 1) (256 - (v : Int)) by rw [hF, hv])
          have HV2 := Lib.hid hv
          have hv2 : v ≤ 256 := by omega
          clear hF hv
          go_wp2_with (go_at_call 35; (with_reducible refine (C2.out).mono ?_); rintro e1 w3 ⟨rfl, g, k⟩; have H3 := Lib.hid (hA.out.grow g (k v HV2.out hv2)); clear g k)
          go_roundw
          case rel => exact ⟨j + 1, v, by omega, by go_num, hv2, HE.out, H3⟩
          case measure => simp [intOf]; omega
      · obtain rfl : j = n := by omega
        have HE := Lib.hid (hF.trans (HEnd.out _))
        clear hF
        go_wp2
        go_ret
        refine ⟨ret_b (decide_eq_true (by have := HE.out; omega)).symm, H.out.grw, fun u hu h2 => ?_⟩
        obtain rfl : u = t := by have := HE.out; omega
        exact H.out.box
end Go.Proofs.YtplcmcealeeppaaGreatDoor
/- The program: May, Tokens. -/
set_option linter.unusedVariables false
set_option linter.unusedSimpArgs false
namespace Go.Proofs.YtplcmcealeeppaaGreatDoor
open Go Go.RowKit L8 L10

set_option maxRecDepth 100000 in
theorem PMayX_any (e : Ex) (A : Option Addr) (n c : Nat) (w : World) (R : TrR w A c e.l) (hn : e.l.length = n) (ok : OKe e) (ht : T10 w) : Calls Tryz.prog 12 #[exV e A n c] w fun en w' => en = .returned (.bool (mayE e)) ∧ Below w.heap.size w w' := by
  have b1 : Below w.heap.size w (w.alloc (.cells (exC e A n c) 27)) := bal (b0 w) _
  have b2 : Below w.heap.size w ((w.alloc (.cells (exC e A n c) 27)).alloc (.cells #[.int .i64 0] 66)) := bal b1 _
  have hbx : BoxS ((w.alloc (.cells (exC e A n c) 27)).alloc (.cells #[.int .i64 0] 66)) (w.heap.size + 1) 66 #[.int .i64 ((0 : Nat) : Int)] := by
    have := boxS_new (w.alloc (.cells (exC e A n c) 27)) 66 #[.int .i64 ((0 : Nat) : Int)]
    rwa [World.size_alloc] at this
  have C : Hid (Calls Tryz.prog 35 #[.pointer (some ⟨w.heap.size + 1, 0, none⟩), exV e A n c, .int .i64 1] ((w.alloc (.cells (exC e A n c) 27)).alloc (.cells #[.int .i64 0] 66)) fun en w' => en = .returned (.bool (mayE e)) ∧ Below w.heap.size w w') := Lib.hid (by
    have := cmay_any e A n c 0 0 (w.heap.size + 1) _ ((R.toN fun k hk => (by show k ≠ _; omega : (fun k => k ≠ w.heap.size + 1) k)).keep b2) hn ok (ht.below b2) hbx (by omega) (by omega)
    refine this.mono fun en w' ⟨h1, h2, _⟩ => ⟨?_, ?_⟩
    · rw [room_may]; exact h1
    · exact b2.trans (below_g h2 (by omega) b2.size))
  clear R hn ok ht b1 b2 hbx
  generalize mayE e = r at *
  dsimp only [exV, exC] at *
  generalize strOf e.s = S at *
  go_enter Tryz.func12, Tryz.ntmps12
  go_wp2_with (go_at_call 35; (with_reducible refine (C.out).mono ?_); rintro en w2 ⟨rfl, b⟩; have H2 := Lib.hid b; clear b)
  go_ret
  exact ⟨rfl, H2.out⟩
set_option maxRecDepth 100000 in
theorem PToksX_any (e : Ex) (A : Option Addr) (n c : Nat) (w : World) (R : TrR w A c e.l) (hn : e.l.length = n) (ok : OKe e) (ht : T10 w) : Calls Tryz.prog 22 #[exV e A n c] w fun en w' => ∃ B d, en = .returned (.tuple #[.slice B (toksX e).1.length d, .int .i64 (toksX e).2]) ∧ OwnR w' 47 w.heap.size B (toksX e).1.length d (toksX e).1 ∧ Below w.heap.size w w' := by
  have b1 : Below w.heap.size w (w.alloc (.cells (exC e A n c) 27)) := bal (b0 w) _
  have CM := Lib.hid (PMayX_any e A n c (w.alloc (.cells (exC e A n c) 27)) (R.keep b1) hn ok (ht.below b1))
  have HB := Lib.hid b1
  have HX : Hid (∀ W, Below (w.alloc (.cells (exC e A n c) 27)).heap.size (w.alloc (.cells (exC e A n c) 27)) W → BoxS W w.heap.size 27 (exC e A n c) ∧ Below w.heap.size w W) := Lib.hid fun W k => ⟨(boxS_new w _ _).below k, blw b1 k⟩
  cases hm : mayE e with
  | false =>
    have he : toksX e = ([], 2) := by unfold toksX; rw [hm]; rfl
    rw [he]
    rw [hm] at CM
    clear R hn ok ht b1 hm he
    dsimp only [exV, exC] at *
    generalize strOf e.s = S at *
    go_enter Tryz.func22, Tryz.ntmps22
    go_wp2_with (go_at_call 12; (with_reducible refine (CM.out).mono ?_); rintro en w2 ⟨rfl, b⟩; have H2 := Lib.hid (HX.out _ b); clear b)
    go_ret2
    exact ⟨none, 0, rfl, ownR_nil _ _ _, H2.out.2⟩
  | true =>
    have he : toksX e = (tkE e, 0) := by unfold toksX; rw [if_pos hm]
    have hal : allE e = true ∧ szE e ≤ 256 := by
      unfold mayE at hm
      simp only [Bool.and_eq_true, decide_eq_true_eq] at hm
      exact ⟨hm.1, hm.2.1⟩
    have CT : Hid (∀ W, Below w.heap.size w W → Calls Tryz.prog 40 #[.slice none 0 0, exV e A n c] W fun en w' => ∃ B d, en = .returned (.slice B (tkE e).length d) ∧ OwnR w' 47 w.heap.size B (tkE e).length d (tkE e) ∧ Below w.heap.size w w') := Lib.hid fun W k =>
      ((both_all e hal.1).1 w W none A 0 0 n c [] ht R hn ok k (ownR_nil _ _ _) (by omega)).mono fun en w' ⟨B, d, h1, h2⟩ => ⟨B, d, h1, h2.own, h2.bel⟩
    rw [he]
    rw [hm] at CM
    clear R hn ok ht b1 hm he hal
    dsimp only [exV, exC] at *
    generalize strOf e.s = S at *
    generalize (tkE e).length = N at *
    go_enter Tryz.func22, Tryz.ntmps22
    go_wp2_with (first
      | (go_at_call 12; (with_reducible refine (CM.out).mono ?_); rintro en w2 ⟨rfl, b⟩; have H2 := Lib.hid (HX.out _ b); clear b; obtain ⟨x0, x1, x2, x3, x4, x5⟩ := box6 H2.out.1)
      | (go_at_call 40; (with_reducible refine (CT.out _ H2.out.2).mono ?_); rintro en w3 ⟨B, d, rfl, o, k⟩; have H3 := Lib.hid (And.intro o k); clear o k))
    go_ret2
    exact ⟨B, d, rfl, H3.out.1, H3.out.2⟩
end Go.Proofs.YtplcmcealeeppaaGreatDoor
/- The laws' copy of a tree. -/
set_option linter.unusedVariables false
set_option linter.unusedSimpArgs false
namespace Go.Proofs.YtplcmcealeeppaaGreatDoor
open Go Go.RowKit L8 L10

theorem TrO.fr {w w' : World} {P : Nat → Prop} {B n c : Nat} {A : Option Addr} {l : List It} (h : TrO w B A n c l) (g : Fr w w' P) (hP : ∀ k, B ≤ k → ¬ P k) : TrO w' B A n c l := by
  refine ⟨⟨h.own.1, ?_⟩, h.ok, fun j hj => (h.sub j hj).fr g fun k _ n => hP k n.1⟩
  rcases h.own.2 with h2 | ⟨q, cap, cur, hv, hB, hh, rest⟩
  · exact .inl h2
  · exact .inr ⟨q, cap, cur, hv, hB, g.obj hh (hP q hB), rest⟩
def zX : Array Value := #[.int .u8 0, .int .u8 0, .int .u8 0, .int .i32 0, .string ⟨#[]⟩, .slice none 0 0]
/-- A world in which the tree lies in a box, the result's box is empty, and j parts have been copied. -/
structure Cps (w X : World) (e : Ex) (A : Option Addr) (n c : Nat) (B : Option Addr) (j d : Nat) (l : List It) : Prop where
  bel : Below w.heap.size w X
  ex : BoxS X w.heap.size 27 (exC e A n c)
  rs : BoxS X (w.heap.size + 1) 27 zX
  own : BoxS X (w.heap.size + 1 + 1) 27 (exC e B j d)
  row : TrO X (w.heap.size + 3) B j d l
  pre : l.map It.e = e.l.take j
theorem Cps.step {w X Y : World} {e : Ex} {A B : Option Addr} {n c j d : Nat} {l : List It} (h : Cps w X e A n c B j d l) (b : Below X.heap.size X Y) : Cps w Y e A n c B j d l := ⟨blw h.bel b, h.ex.below b, h.rs.below b, h.own.below b, h.row.keep b, h.pre⟩
theorem Cps.lt {w X : World} {e : Ex} {A B : Option Addr} {n c j d : Nat} {l : List It} (h : Cps w X e A n c B j d l) : w.heap.size + 3 ≤ X.heap.size := h.own.lt
theorem set_box5 {W : World} {k : Nat} {t : TypeId} {a b c d e f : Value} (h : BoxS W k t #[a, b, c, d, e, f]) (v : Value) : BoxS (W.setCell ⟨k, 5, none⟩ v) k t #[a, b, c, d, e, v] := by
  obtain ⟨hlt, hk⟩ := Array.getElem?_eq_some_iff.1 (show W.heap[k]? = _ from h)
  show (W.heap.modify k _)[k]? = _
  rw [Array.getElem?_eq_getElem (by rw [Array.size_modify]; exact hlt), Array.getElem_modify_self, hk]
  rfl
theorem fr_one (W : World) (k i : Nat) (v : Value) : Fr W (W.setCell ⟨k, i, none⟩ v) (fun q => q = k) := (fr_set W k i v none).trans (Fr.refl _ (fun q => q = k)) (fun q h => by rcases h with h | ⟨ad, h, _⟩; exact h; cases h) fun q _ h => h
theorem Cps.new {w : World} {e : Ex} {A : Option Addr} {n c : Nat} : Cps w (((w.alloc (.cells (exC e A n c) 27)).alloc (.cells zX 27)).alloc (.cells (exC e none 0 0) 27)) e A n c none 0 0 [] := by
  have h2 := boxS_new ((w.alloc (.cells (exC e A n c) 27)).alloc (.cells zX 27)) 27 (exC e none 0 0)
  rw [World.size_alloc, World.size_alloc] at h2
  have h1 := boxS_new (w.alloc (.cells (exC e A n c) 27)) 27 zX
  rw [World.size_alloc] at h1
  exact ⟨bal (bal (bal (b0 w) _) _) _, ((boxS_new w _ _).alloc _).alloc _, h1.alloc _, h2, TrO.nil _ _, by simp⟩
theorem Cps.nb {w X : World} {e : Ex} {A B : Option Addr} {n c j d : Nat} {l : List It} (h : Cps w X e A n c B j d l) {k : Nat} (hk : X.heap.size ≤ k) : Nb (w.heap.size + 3) B k := by
  refine ⟨by have := h.lt; omega, fun ad e => ?_⟩
  subst e
  have := (World.ownsRow.lt h.row.own ad.block rfl).2
  omega
theorem it_box {W : World} {q m : Nat} {t : TypeId} {y : Ex} {A : Option Addr} {c : Nat} (hm : y.l.length = m) (h : BoxS W q t (exC y A m c)) : ∀ i u, (itC ⟨y, A, c⟩)[i]? = some u → W.cell? ((⟨q, 0, none⟩ : Addr).add i) = some u := by
  subst hm
  intro i u hu
  rw [add_plain, Nat.zero_add, h.cell i]
  rw [← hu]
  show (itC ⟨y, A, c⟩).toArray[i]? = _
  rw [List.getElem?_toArray]
/-- A part that was copied has been appended. -/
theorem Cps.app {w X Y : World} {e : Ex} {A B B2 : Option Addr} {n c j d d2 : Nat} {l : List It} {x : It} (h : Cps w X e A n c B j d l) (hj : j < e.l.length) (hx : x.e = e.l.getD j e0) (o : TrO Y (w.heap.size + 3) B2 (j + 1) d2 (l ++ [x])) (g : X.grownBy Y (Value.slice B j d).ownBlock) :
    Cps w (Y.setCell ⟨w.heap.size + 1 + 1, 5, none⟩ (.slice B2 (j + 1) d2)) e A n c B2 (j + 1) d2 (l ++ [x]) ∧ Y.frozen? ⟨w.heap.size + 1 + 1, 5, none⟩ = false ∧ Y.cell? ⟨w.heap.size + 1 + 1, 5, none⟩ = some (.slice B j d) := by
  have k : Fr X Y (fun q => w.heap.size + 3 ≤ q) := Fr.ofG g fun q e => by
    obtain ⟨ad, e1, e2⟩ := ob_some e
    subst e1
    have := (World.ownsRow.lt h.row.own ad.block rfl).1
    omega
  have g2 := fr_one Y (w.heap.size + 1 + 1) 5 (.slice B2 (j + 1) d2)
  refine ⟨⟨bset (bgrow h.bel h.row.own (by omega) g) (by omega) _, g2.box (k.box h.ex (by omega)) (by omega), g2.box (k.box h.rs (by omega)) (by omega), set_box5 (k.box h.own (by omega)) _, o.fr g2 (fun q hq => by omega), ?_⟩, (k.box h.own (by omega)).frozen 5, (box6 (k.box h.own (by omega))).2.2.2.2.2⟩
  rw [List.map_append, h.pre, take_one hj, ← hx]
  rfl
theorem Cps.cells {w X : World} {e : Ex} {A B : Option Addr} {n c j d : Nat} {l : List It} (h : Cps w X e A n c B j d l) : X.cell? ⟨w.heap.size, 5, none⟩ = some (.slice A n c) ∧ X.cell? ⟨w.heap.size + 1 + 1, 5, none⟩ = some (.slice B j d) := ⟨(box6 h.ex).2.2.2.2.2, (box6 h.own).2.2.2.2.2⟩
/-- The copy is laid into the result's box. -/
theorem Cps.fin {w X : World} {e : Ex} {A B : Option Addr} {n c d : Nat} {l : List It} (h : Cps w X e A n c B n d l) (hn : e.l.length = n) :
    BoxS (set6 X (w.heap.size + 1) (.int .u8 (e.k : Int)) (.int .u8 (e.o : Int)) (.int .u8 (e.t : Int)) (.int .i32 e.n) (.string (strOf e.s)) (.slice B n d)) (w.heap.size + 1) 27 (exC e B n d)
    ∧ TrN (set6 X (w.heap.size + 1) (.int .u8 (e.k : Int)) (.int .u8 (e.o : Int)) (.int .u8 (e.t : Int)) (.int .i32 e.n) (.string (strOf e.s)) (.slice B n d)) (fun k => w.heap.size ≤ k) B d e.l
    ∧ Below w.heap.size w (set6 X (w.heap.size + 1) (.int .u8 (e.k : Int)) (.int .u8 (e.o : Int)) (.int .u8 (e.t : Int)) (.int .i32 e.n) (.string (strOf e.s)) (.slice B n d)) := by
  have t := h.row.tr
  rw [h.pre, ← hn, List.take_length] at t
  refine ⟨box6_all _ _ _ _ _ _ h.rs, ?_, bset6 h.bel (by omega) _ _ _ _ _ _⟩
  exact (t.fr (fr_set6 X (w.heap.size + 1) _ _ _ _ _ _) (fun j _ hj e => by omega)).mono fun j _ hj => by omega
set_option maxRecDepth 100000 in
set_option maxHeartbeats 16000000 in
theorem copied_any : ∀ e : Ex, ∀ (A : Option Addr) (n c : Nat) (w : World), TrR w A c e.l → e.l.length = n → OKe e → szE e ≤ 900000 → Calls Tryz.prog 9 #[exV e A n c] w fun en w' => ∃ A2 c2, en = .returned (exV e A2 n c2) ∧ TrN w' (fun k => w.heap.size ≤ k) A2 c2 e.l ∧ Below w.heap.size w w' := by
  refine Ex.ind fun e ih A n c w R hn ok hsz => ?_
  have HN := Lib.hid hn
  have hlen : n ≤ szL e.l := by
    have key : ∀ l : List Ex, l.length ≤ szL l := fun l => by
      induction l with
      | nil => simp
      | cons x r ih => rw [szL, List.length_cons]; have := szE_pos x; omega
    have := key e.l
    omega
  have hsz2 := szE_eq e
  have hmx : n ≤ 899999 := by omega
  have HV : Hid (Cps w (((w.alloc (.cells (exC e A n c) 27)).alloc (.cells zX 27)).alloc (.cells (exC e none 0 0) 27)) e A n c none 0 0 []) := Lib.hid Cps.new
  have IH : Hid (∀ j, j < n → ∀ (B : Option Addr) (m d : Nat) (X : World), TrR X B d (e.l.getD j e0).l → (e.l.getD j e0).l.length = m → OKe (e.l.getD j e0) → Calls Tryz.prog 9 #[exV (e.l.getD j e0) B m d] X fun en w' => ∃ A2 c2, en = .returned (exV (e.l.getD j e0) A2 m c2) ∧ TrN w' (fun k => X.heap.size ≤ k) A2 c2 (e.l.getD j e0).l ∧ Below X.heap.size X w') := Lib.hid fun j hj B m d X R h ok => ih _ (getD_memE (by omega)) B m d X R h ok (by have := sz_part (l := e.l) (j := j) (by omega); omega)
  have HR := Lib.hid R
  have HA := Lib.hid (fun (X Y : World) (B B2 : Option Addr) (j d d2 : Nat) (l : List It) (x : It) (h : Cps w X e A n c B j d l) (hj : j < n) (hx : x.e = e.l.getD j e0) (o : TrO Y (w.heap.size + 3) B2 (j + 1) d2 (l ++ [x])) (g : X.grownBy Y (Value.slice B j d).ownBlock) => h.app (by omega) hx o g)
  have HF := Lib.hid (fun (X : World) (B : Option Addr) (d : Nat) (l : List It) (h : Cps w X e A n c B n d l) => h.fin hn)
  have HW := Lib.hid (fun (X : World) (B : Option Addr) (d : Nat) (l : List It) (h : Cps w X e A n c B n d l) => And.intro (And.intro (box6 h.own) (box6f h.own)) (And.intro (box6 h.rs) (box6f h.rs)))
  clear R hn ih hsz hsz2 hlen ok
  dsimp only [exV, exC, zX] at *
  generalize hS : strOf e.s = S at *
  clear hS
  go_enter Tryz.func9, Tryz.ntmps9
  go_wp2
  generalize ((w.alloc (.cells #[.int .u8 (e.k : Int), .int .u8 (e.o : Int), .int .u8 (e.t : Int), .int .i32 e.n, .string S, .slice A n c] 27)).alloc (.cells #[.int .u8 0, .int .u8 0, .int .u8 0, .int .i32 0, .string ⟨#[]⟩, .slice none 0 0] 27)).alloc (.cells #[.int .u8 (e.k : Int), .int .u8 (e.o : Int), .int .u8 (e.t : Int), .int .i32 e.n, .string S, .slice none 0 0] 27) = V at *
  go_loopw [10] (fun i wr => ∃ (j : Nat) (B : Option Addr) (d : Nat) (l : List It), j ≤ n ∧ i = .int .i64 j ∧ Hid (Cps w wr e A n c B j d l)) (fun i _ => n - (intOf i).toNat)
  case atStart => exact ⟨0, none, 0, [], Nat.zero_le _, rfl, HV⟩
  case round =>
    obtain ⟨j, B, d, l, hj, rfl, H⟩ := hrel
    have hj0 : (0 : Int) ≤ (j : Int) := by omega
    by_cases hlt : (j : Int) < (n : Int)
    · obtain ⟨ad, rfl, C, m, q, hm, hok, Rc, x0, x1, x2, x3, x4, x5⟩ := HR.out.at (j := j) (by have := HN.out; omega)
      have CI : Hid (∀ X, Cps w X e (some ad) n c B j d l → Calls Tryz.prog 9 #[exV (e.l.getD j e0) C m q] X fun en w' => ∃ A2 c2, en = .returned (exV (e.l.getD j e0) A2 m c2) ∧ TrN w' (fun k => X.heap.size ≤ k) A2 c2 (e.l.getD j e0).l ∧ Below X.heap.size X w') := Lib.hid fun X h => IH.out j (by omega) C m q X (Rc.keep h.bel) hm hok
      have HX : Hid (∀ w', Below w.heap.size w w' → BoxS w' w.heap.size 27 (exC e (some ad) n c) → w'.cell? ⟨w.heap.size, 5, none⟩ = some (.slice (some ad) n c) ∧ w'.cell? (ad.add (j * 6)) = some (.int .u8 ((e.l.getD j e0).k : Int)) ∧ w'.cell? ⟨(ad.add (j * 6)).block, (ad.add (j * 6)).off + 1, none⟩ = some (.int .u8 ((e.l.getD j e0).o : Int)) ∧ w'.cell? ⟨(ad.add (j * 6)).block, (ad.add (j * 6)).off + 2, none⟩ = some (.int .u8 ((e.l.getD j e0).t : Int)) ∧ w'.cell? ⟨(ad.add (j * 6)).block, (ad.add (j * 6)).off + 3, none⟩ = some (.int .i32 (e.l.getD j e0).n) ∧ w'.cell? ⟨(ad.add (j * 6)).block, (ad.add (j * 6)).off + 4, none⟩ = some (.string (strOf (e.l.getD j e0).s)) ∧ w'.cell? ⟨(ad.add (j * 6)).block, (ad.add (j * 6)).off + 5, none⟩ = some (.slice C m q)) := Lib.hid fun X h hb => ⟨(box6 hb).2.2.2.2.2, (h.cell (g_lt x0)).trans x0, (h.cell (g_lt x1)).trans x1, (h.cell (g_lt x2)).trans x2, (h.cell (g_lt x3)).trans x3, (h.cell (g_lt x4)).trans x4, (h.cell (g_lt x5)).trans x5⟩
      have HB := Lib.hid (fun (W : World) (q : Nat) (A2 : Option Addr) (c2 : Nat) (h : BoxS W q 27 (exC (e.l.getD j e0) A2 m c2)) => it_box hm h)
      have HNb := Lib.hid (fun (X : World) (h : Cps w X e (some ad) n c B j d l) (k : Nat) (hk : X.heap.size ≤ k) => h.nb hk)
      have HJ := Lib.hid (fun (X Y : World) (B2 : Option Addr) (d2 : Nat) (A2 : Option Addr) (c2 : Nat) (h : Cps w X e (some ad) n c B j d l) (o : TrO Y (w.heap.size + 3) B2 (j + 1) d2 (l ++ [⟨e.l.getD j e0, A2, c2⟩])) (g : X.grownBy Y (Value.slice B j d).ownBlock) => HA.out X Y B B2 j d d2 l ⟨e.l.getD j e0, A2, c2⟩ h (by omega) rfl o g)
      have HOK := Lib.hid hok
      clear Rc hm hok x0 x1 x2 x3 x4 x5 IH HA HF HW
      generalize e.l.getD j e0 = y at *
      dsimp only [exV, exC] at *
      generalize hSY : strOf y.s = SY at *
      clear hSY
      have HD : Hid (Cps w wr.drew e (some ad) n c B j d l) := Lib.hid (H.out.step (bdrew (b0 wr) 1))
      obtain ⟨z0, z1, z2, z3, z4, z5, z6⟩ := HX.out _ HD.out.bel HD.out.ex
      have zo := HD.out.cells.2
      go_wp2_with fail
      go_region_law (first
        | (go_simp; go_at_call 9; (with_reducible refine (CI.out _ HD.out).mono ?_); rintro e1 W1 ⟨A2, c2, rfl, t, b⟩; have H1 := Lib.hid (HD.out.step b); have H1a := Lib.hid (H1.out.step (bal (b0 W1) (.cells #[.int .u8 (y.k : Int), .int .u8 (y.o : Int), .int .u8 (y.t : Int), .int .i32 y.n, .string SY, .slice A2 m c2] 27))); have T1 := Lib.hid ((t.keep (bal (b0 W1) (.cells #[.int .u8 (y.k : Int), .int .u8 (y.o : Int), .int .u8 (y.t : Int), .int .i32 y.n, .string SY, .slice A2 m c2] 27))).mono (fun k _ hk => HNb.out _ HD.out k hk)); have Y1 := Lib.hid (HB.out _ _ A2 c2 (boxS_new W1 _ _)); clear b t; have zo1 := H1.out.cells.2; have zo2 := H1a.out.cells.2)
        | (refine step_tree rfl (.tmp 14) (.tmp 21) rfl (w.heap.size + 3) j d B l ⟨y, A2, c2⟩ ⟨W1.heap.size, 0, none⟩ rfl rfl H1a.out.row HOK.out T1.out Y1.out (by omega) H1a.out.lt ?_; intro A3 c3 W3 o g; have H3 := Lib.hid (HJ.out _ _ _ _ _ _ H1a.out o g); have H3f := H3.out.2.1; have H3c := H3.out.2.2; clear o g))
      all_goals (
        go_wp2
        go_roundw
        case rel => exact ⟨j + 1, A3, c3, l ++ [⟨y, A2, c2⟩], by omega, by go_num, Lib.hid H3.out.1⟩
        case measure => simp [intOf]; omega)
    · obtain rfl : j = n := by omega
      have HE := Lib.hid (HF.out _ _ _ _ H.out)
      obtain ⟨⟨⟨p0, p1, p2, p3, p4, p5⟩, _⟩, ⟨r0, r1, r2, r3, r4, r5⟩, f0, f1, f2, f3, f4, f5⟩ := HW.out _ _ _ _ H.out
      clear HA HF HW IH HR HV H HN
      go_wp2
      clear p0 p1 p2 p3 p4 p5 r0 r1 r2 r3 r4 r5 f0 f1 f2 f3 f4 f5
      unfold set6 at HE
      generalize (((((wr.setCell ⟨w.heap.size + 1, 0, none⟩ (.int .u8 (e.k : Int))).setCell ⟨w.heap.size + 1, 1, none⟩ (.int .u8 (e.o : Int))).setCell ⟨w.heap.size + 1, 2, none⟩ (.int .u8 (e.t : Int))).setCell ⟨w.heap.size + 1, 3, none⟩ (.int .i32 e.n)).setCell ⟨w.heap.size + 1, 4, none⟩ (.string S)).setCell ⟨w.heap.size + 1, 5, none⟩ (.slice B j d) = X5 at *
      obtain ⟨y0, y1, y2, y3, y4, y5⟩ := box6 HE.out.1
      refine bodyPost_ret (v := .agg #[.int .u8 (e.k : Int), .int .u8 (e.o : Int), .int .u8 (e.t : Int), .int .i32 e.n, .string S, .slice B j d]) (by simp [results, Tryz.results9, go_sem, y0, y1, y2, y3, y4, y5]) rfl ⟨B, d, rfl, HE.out.2.1, HE.out.2.2⟩
end Go.Proofs.YtplcmcealeeppaaGreatDoor
/- The program: Front. -/
set_option linter.unusedVariables false
set_option linter.unusedSimpArgs false
namespace Go.Proofs.YtplcmcealeeppaaGreatDoor
open Go Go.RowKit L8 L10

def flE (er : Int) (r : Bool) : PanicEntry := { v := .iface 76 (.agg #[.int .i64 er]), recovered := r }
/-- The deferred closure in a frame that panics: the failure is recovered, its error laid. -/
theorem fcatch (p : Addr) (x er : Int) (w : World) (hc : w.cell? p = some (.int .i64 x)) (hz : w.frozen? p = false) (hp : p.block < w.heap.size) :
    CallsD Tryz.prog 42 #[.pointer (some p)] (.panicking [flE er false]) w fun e u' w' => e = .returned (.tuple #[]) ∧ u' = .panicking [flE er true] ∧ w' = (w.alloc (.cells #[.int .i64 er] 76)).setCell p (.int .i64 er) := by
  have hc1 : (w.alloc (.cells #[.int .i64 er] 76)).cell? ⟨w.heap.size, 0, none⟩ = some (.int .i64 er) := ((boxS_new w 76 #[.int .i64 er]).cell 0).trans rfl
  have hc2 : (w.alloc (.cells #[.int .i64 er] 76)).cell? p = some (.int .i64 x) := ((bal (b0 w) _).cell hp).trans hc
  have hz2 : (w.alloc (.cells #[.int .i64 er] 76)).frozen? p = false := by
    unfold World.frozen? at hz ⊢
    rw [(bal (b0 w) (.cells #[.int .i64 er] 76)).block _ hp]
    exact hz
  have hta : ∀ W, Sem.run Tryz.prog (Instr.typeAssert (.iface 76 (.agg #[.int .i64 er])) 20 76 true) W = .ok (.tuple #[.agg #[.int .i64 er], .bool true]) W := fun W => by kernel_rfl
  refine callsD_of_wpS Tryz.func42 rfl fun c₀ cs hu => ?_
  apply wpS_seq
  apply wpS_region
  simp [wpOpsS, go_sem, recoverD, hu, Tryz.ntmps42, Exit.thenS, flE, hta]
  apply wpS_seq
  apply wpS_region
  simp [wpOpsS, go_sem, Exit.thenS, Array.replicate]
  refine wpS_cond (t := true) (by simp [Act.eval, Array.replicate]) ?_
  simp only [if_true]
  apply wpS_region
  simp [wpOpsS, go_sem, hc1, hc2, hz2, bodyPostS, results, Tryz.results42]
theorem fidle (p : Addr) (w : World) :
    CallsD Tryz.prog 42 #[.pointer (some p)] .returning w fun e u' w' => e = .returned (.tuple #[]) ∧ u' = .returning ∧ w' = w.alloc (.cells #[.int .i64 0] 76) := by
  have hta : ∀ W, Sem.run Tryz.prog (Instr.typeAssert .nilIface 20 76 true) W = .ok (.tuple #[.agg #[.int .i64 0], .bool false]) W := fun W => by kernel_rfl
  refine callsD_of_wpS Tryz.func42 rfl fun c₀ cs hu => ?_
  apply wpS_seq
  apply wpS_region
  simp [wpOpsS, go_sem, recoverD, hu, Tryz.ntmps42, Exit.thenS, hta]
  apply wpS_seq
  apply wpS_region
  simp [wpOpsS, go_sem, Exit.thenS, Array.replicate]
  refine wpS_cond (t := false) (by simp [Act.eval, Array.replicate]) ?_
  simp only [Bool.false_eq_true, if_false]
  refine wpS_of_wp (wp_skip ?_)
  cases c₀
  simp_all [bodyPostS, results, Tryz.results42]
/-! ### Front -/
/-- The world in which reading begins. -/
def frW (w : World) (A : Option Addr) (m c : Nat) : World := ((w.alloc (.cells zC 27)).alloc (.cells #[.int .i64 0] 40)).alloc (.cells #[.slice A m c, .int .i64 0, .int .i64 0] 80)
theorem frW_box (w : World) (A : Option Addr) (m c : Nat) : Below w.heap.size w (frW w A m c) ∧ BoxS (frW w A m c) w.heap.size 27 zC ∧ BoxS (frW w A m c) (w.heap.size + 1) 40 #[.int .i64 0] ∧ BoxS (frW w A m c) (w.heap.size + 1 + 1) 80 (rdC A m c 0 0) := by
  unfold frW
  have h1 := boxS_new (w.alloc (.cells zC 27)) 40 #[.int .i64 0]
  have h2 := boxS_new ((w.alloc (.cells zC 27)).alloc (.cells #[.int .i64 0] 40)) 80 #[.slice A m c, .int .i64 0, .int .i64 0]
  rw [World.size_alloc] at h1
  rw [World.size_alloc, World.size_alloc] at h2
  exact ⟨bal (bal (bal (b0 w) _) _) _, ((boxS_new w _ _).alloc _).alloc _, h1.alloc _, h2⟩
theorem frW_rdr {w : World} {A : Option Addr} {m c : Nat} {l : List Tk} (R : RR w A c l) (hm : l.length = m) (hs : m ≤ 4000000) (h : T10 w) : Rdr (frW w A m c) (w.heap.size + 1 + 1) A m c l 0 0 := by
  obtain ⟨b, _, _, h3⟩ := frW_box w A m c
  exact ⟨h3, hm, hs, R.keep b, fun ad e h0 => by have := R.lt h0 ad e; omega, h.below b⟩
/-- A number laid into its box. -/
theorem set_box1 {W : World} {k : Nat} {t : TypeId} {a : Value} (h : BoxS W k t #[a]) (v : Value) : BoxS (W.setCell ⟨k, 0, none⟩ v) k t #[v] := by
  obtain ⟨hlt, hk⟩ := Array.getElem?_eq_some_iff.1 (show W.heap[k]? = _ from h)
  show (W.heap.modify k _)[k]? = _
  rw [Array.getElem?_eq_getElem (by rw [Array.size_modify]; exact hlt), Array.getElem_modify_self, hk]
  rfl
theorem okE0 : OKe e0 := by unfold OKe maxLen; decide
/-- What stays behind the reader: the results' boxes, the reader's, the tree that was read. -/
structure FS (w U : World) (x : Ex) (B : Option Addr) (n d : Nat) (A : Option Addr) (m c q K : Nat) : Prop where
  bel : Below w.heap.size w U
  t10 : T10 U
  h0 : BoxS U w.heap.size 27 zC
  h1 : BoxS U (w.heap.size + 1) 40 #[.int .i64 0]
  h2 : BoxS U (w.heap.size + 1 + 1) 80 (rdC A m c q 0)
  hx : BoxS U K 27 (exC x B n d)
  tr : TrN U (fun k => w.heap.size + 3 ≤ k) B d x.l
theorem FS.step {w U Y : World} {x : Ex} {A B : Option Addr} {n d m c q K : Nat} (h : FS w U x B n d A m c q K) (b : Below U.heap.size U Y) : FS w Y x B n d A m c q K := ⟨blw h.bel b, h.t10.below b, h.h0.below b, h.h1.below b, h.h2.below b, h.hx.below b, h.tr.keep b⟩
theorem FS.new {w W1 : World} {x : Ex} {A B : Option Addr} {d m c q : Nat} {l : List Tk} (R : RR w A c l) (hm : l.length = m) (hs : m ≤ 4000000) (h10 : T10 w) (t : TrN W1 (fun k => (frW w A m c).heap.size ≤ k) B d x.l) (k : Rs (frW w A m c) W1 (w.heap.size + 1 + 1) A m c q 0) : FS w (W1.alloc (.cells (exC x B x.l.length d) 27)) x B x.l.length d A m c q W1.heap.size := by
  obtain ⟨b, h0, h1, h2⟩ := frW_box w A m c
  have hv : (frW w A m c).heap.size = w.heap.size + 3 := by unfold frW; rw [World.size_alloc, World.size_alloc, World.size_alloc]
  have r := k.rdr (frW_rdr R hm hs h10)
  have g := bal (b0 W1) (.cells (exC x B x.l.length d) 27)
  rw [hv] at t
  exact ⟨bal (b.trans (below_g k.grw (by omega) b.size)) _, r.t10.below g, (h0.kept k.grw (by simp; omega)).alloc _, (h1.kept k.grw (by simp)).alloc _, r.box.alloc _, boxS_new W1 _ _, t.keep g⟩
theorem FS.fin {w U : World} {x : Ex} {A B : Option Addr} {n d m c q K : Nat} (h : FS w U x B n d A m c q K) (a0 a1 a2 a3 a4 a5 v : Value) :
    Below w.heap.size w ((set6 U w.heap.size a0 a1 a2 a3 a4 a5).setCell ⟨w.heap.size + 1, 0, none⟩ v) ∧ BoxS ((set6 U w.heap.size a0 a1 a2 a3 a4 a5).setCell ⟨w.heap.size + 1, 0, none⟩ v) w.heap.size 27 #[a0, a1, a2, a3, a4, a5] ∧ BoxS ((set6 U w.heap.size a0 a1 a2 a3 a4 a5).setCell ⟨w.heap.size + 1, 0, none⟩ v) (w.heap.size + 1) 40 #[v] ∧ TrR ((set6 U w.heap.size a0 a1 a2 a3 a4 a5).setCell ⟨w.heap.size + 1, 0, none⟩ v) B d x.l := by
  have g1 := fr_set6 U w.heap.size a0 a1 a2 a3 a4 a5
  have g2 := fr_one (set6 U w.heap.size a0 a1 a2 a3 a4 a5) (w.heap.size + 1) 0 v
  refine ⟨bset (bset6 h.bel (Nat.le_refl _) _ _ _ _ _ _) (by omega) _, g2.box (box6_all _ _ _ _ _ _ h.h0) (by omega), set_box1 (g1.box h.h1 (by omega)) v, ?_⟩
  exact ((h.tr.fr g1 (fun k _ hk e => by omega)).fr g2 (fun k _ hk e => by omega)).tr
theorem FS.cells {w U : World} {x : Ex} {A B : Option Addr} {n d m c q K : Nat} (h : FS w U x B n d A m c q K) : (U.cell? ⟨w.heap.size, 0, none⟩ = some (.int .u8 0) ∧ U.cell? ⟨w.heap.size, 1, none⟩ = some (.int .u8 0) ∧ U.cell? ⟨w.heap.size, 2, none⟩ = some (.int .u8 0) ∧ U.cell? ⟨w.heap.size, 3, none⟩ = some (.int .i32 0) ∧ U.cell? ⟨w.heap.size, 4, none⟩ = some (.string ⟨#[]⟩) ∧ U.cell? ⟨w.heap.size, 5, none⟩ = some (.slice none 0 0))
    ∧ (U.frozen? ⟨w.heap.size, 0, none⟩ = false ∧ U.frozen? ⟨w.heap.size, 1, none⟩ = false ∧ U.frozen? ⟨w.heap.size, 2, none⟩ = false ∧ U.frozen? ⟨w.heap.size, 3, none⟩ = false ∧ U.frozen? ⟨w.heap.size, 4, none⟩ = false ∧ U.frozen? ⟨w.heap.size, 5, none⟩ = false)
    ∧ (U.cell? ⟨w.heap.size + 1, 0, none⟩ = some (.int .i64 0) ∧ U.frozen? ⟨w.heap.size + 1, 0, none⟩ = false) ∧ U.cell? ⟨w.heap.size + 1 + 1, 1, none⟩ = some (.int .i64 (q : Int))
    ∧ (U.cell? ⟨K, 0, none⟩ = some (.int .u8 (x.k : Int)) ∧ U.cell? ⟨K, 1, none⟩ = some (.int .u8 (x.o : Int)) ∧ U.cell? ⟨K, 2, none⟩ = some (.int .u8 (x.t : Int)) ∧ U.cell? ⟨K, 3, none⟩ = some (.int .i32 x.n) ∧ U.cell? ⟨K, 4, none⟩ = some (.string (strOf x.s)) ∧ U.cell? ⟨K, 5, none⟩ = some (.slice B n d)) :=
  ⟨box6 h.h0, box6f h.h0, ⟨(h.h1.cell 0).trans rfl, h.h1.frozen 0⟩, (h.h2.cell 1).trans rfl, box6 h.hx⟩
set_option maxRecDepth 100000 in
set_option maxHeartbeats 16000000 in
theorem PFront_any (l : List Tk) (A : Option Addr) (m c : Nat) (w : World) (R : RR w A c l) (hm : l.length = m) (hs : m ≤ 4000000) (h10 : T10 w) : Calls Tryz.prog 26 #[.slice A m c] w (GivesFX w (frontX l)) := by
  have HB := Lib.hid (frW_box w A m c)
  have CI := Lib.hid (rexpr_ok (b := w.heap.size + 1 + 1) (A := A) (m := m) (c := c) (l := l) 32 0 (by decide) _ 0 (frW_rdr R hm hs h10) (Nat.zero_le _))
  have hmf : ∀ (fn : Fn) (first cap : Array Value) (w : World), (Instr.makeFunc fn first cap).run Tryz.prog w = .ok (.func fn first cap) w := fun _ _ _ _ => rfl
  cases hr : rdN l 32 0 with
  | error er =>
    have hf : frontX l = (e0, 0, er) := by unfold frontX; rw [hr]
    rw [hr] at CI
    rw [hf]
    unfold RdX FailE at CI
    clear R hm hs h10 hr hf
    have HE : Hid (∀ W1, (frW w A m c).grownBy W1 (some (w.heap.size + 1 + 1)) → (W1.cell? ⟨w.heap.size + 1, 0, none⟩ = some (.int .i64 0) ∧ W1.frozen? ⟨w.heap.size + 1, 0, none⟩ = false ∧ w.heap.size + 1 < W1.heap.size) ∧ Below w.heap.size w W1 ∧ BoxS W1 w.heap.size 27 zC ∧ BoxS W1 (w.heap.size + 1) 40 #[.int .i64 0]) := Lib.hid fun W1 g => by
      obtain ⟨b, h0, h1, h2⟩ := HB.out
      have k0 := h0.kept g (by simp; omega)
      have k1 := h1.kept g (by simp)
      exact ⟨⟨(k1.cell 0).trans rfl, k1.frozen 0, k1.lt⟩, b.trans (below_g g (by omega) b.size), k0, k1⟩
    have HX : Hid (∀ W1, Below w.heap.size w W1 → BoxS W1 w.heap.size 27 zC → BoxS W1 (w.heap.size + 1) 40 #[.int .i64 0] → Below w.heap.size w ((W1.alloc (.cells #[.int .i64 er] 76)).setCell ⟨w.heap.size + 1, 0, none⟩ (.int .i64 er)) ∧ BoxS ((W1.alloc (.cells #[.int .i64 er] 76)).setCell ⟨w.heap.size + 1, 0, none⟩ (.int .i64 er)) w.heap.size 27 zC ∧ BoxS ((W1.alloc (.cells #[.int .i64 er] 76)).setCell ⟨w.heap.size + 1, 0, none⟩ (.int .i64 er)) (w.heap.size + 1) 40 #[.int .i64 er]) := Lib.hid fun W1 b k0 k1 => ⟨bset (bal b _) (by omega) _, (fr_one _ _ 0 _).box (k0.alloc _) (by omega), set_box1 (k1.alloc _) _⟩
    have HP : Hid (∀ X, Below w.heap.size w X → GivesFX w (e0, 0, er) (.returned (.tuple #[.agg #[.int .u8 0, .int .u8 0, .int .u8 0, .int .i32 0, .string ⟨#[]⟩, .slice none 0 0], .int .i64 0, .int .i64 er])) X) := Lib.hid fun X b => ⟨none, 0, rfl, TrR.nil X, okE0, b⟩
    clear HB
    unfold frW zC at *
    generalize GivesFX w (e0, 0, er) = POST at *
    go_enter_defers Tryz.func26, Tryz.ntmps26
    go_wp2_with (go_at_call 43; (with_reducible refine (CI.out).mono ?_); rintro e1 W1 ⟨rfl, k⟩; have H1 := Lib.hid (HE.out W1 k); clear k)
    obtain ⟨z0, z1, z2⟩ := H1.out.1
    refine leaves_cons (f := 42) (args := #[.pointer (some ⟨w.heap.size + 1, 0, none⟩)]) (by simp) (by simp [go_sem]) ?_
    refine (fcatch ⟨w.heap.size + 1, 0, none⟩ 0 er W1 z0 z1 z2).mono ?_
    rintro e u' w'' ⟨rfl, rfl, rfl⟩
    have HF := Lib.hid (HX.out W1 H1.out.2.1 H1.out.2.2.1 H1.out.2.2.2)
    clear z0 z1 z2 HX HE CI
    generalize (W1.alloc (.cells #[.int .i64 er] 76)).setCell ⟨w.heap.size + 1, 0, none⟩ (.int .i64 er) = X5 at *
    obtain ⟨y0, y1, y2, y3, y4, y5⟩ := box6 HF.out.2.1
    have ye : X5.cell? ⟨w.heap.size + 1, 0, none⟩ = some (.int .i64 er) := (HF.out.2.2.cell 0).trans rfl
    simp [Leaves, settle, results, Tryz.results26, go_sem, flE, y0, y1, y2, y3, y4, y5, ye]
    exact HP.out _ HF.out.1
  | ok v =>
    obtain ⟨x, q⟩ := v
    rw [hr] at CI
    unfold RdX at CI
    dsimp only at CI
    have HN : Hid (∀ (W1 : World) (B : Option Addr) (d : Nat), TrN W1 (fun k => (frW w A m c).heap.size ≤ k) B d x.l → Rs (frW w A m c) W1 (w.heap.size + 1 + 1) A m c q 0 → FS w (W1.alloc (.cells (exC x B x.l.length d) 27)) x B x.l.length d A m c q W1.heap.size) := Lib.hid fun W1 B d t k => FS.new R hm hs h10 t k
    have CM : Hid (∀ (U : World) (B : Option Addr) (d K : Nat), FS w U x B x.l.length d A m c q K → OKe x → Calls Tryz.prog 12 #[exV x B x.l.length d] U fun en w' => en = .returned (.bool (mayE x)) ∧ Below U.heap.size U w') := Lib.hid fun U B d K h ok => PMayX_any x B x.l.length d U h.tr.tr rfl ok h.t10
    have HC := Lib.hid (fun (U : World) (B : Option Addr) (d K : Nat) (h : FS w U x B x.l.length d A m c q K) => h.cells)
    have HF := Lib.hid (fun (U : World) (B : Option Addr) (d K : Nat) (h : FS w U x B x.l.length d A m c q K) (a0 a1 a2 a3 a4 a5 v : Value) => h.fin a0 a1 a2 a3 a4 a5 v)
    cases hmay : mayE x with
    | false =>
      have hf : frontX l = (e0, 0, 3) := by unfold frontX; rw [hr]; dsimp only; rw [hmay]; rfl
      have HP : Hid (∀ X, Below w.heap.size w X → GivesFX w (e0, 0, 3) (.returned (.tuple #[.agg #[.int .u8 0, .int .u8 0, .int .u8 0, .int .i32 0, .string ⟨#[]⟩, .slice none 0 0], .int .i64 0, .int .i64 3])) X) := Lib.hid fun X b => ⟨none, 0, rfl, TrR.nil X, okE0, b⟩
      rw [hf]
      rw [hmay] at CM
      clear R hm hs h10 hr hf hmay HB
      generalize x.l.length = n at *
      unfold frW zC at *
      dsimp only [exV, exC] at *
      generalize strOf x.s = S at *
      generalize GivesFX w (e0, 0, 3) = POST at *
      go_enter_defers Tryz.func26, Tryz.ntmps26
      go_wp2_with (first
        | (go_at_call 43; (with_reducible refine (CI.out).mono ?_); rintro e1 W1 ⟨B, d, rfl, t, ok, k, hq⟩; have H1 := Lib.hid (HN.out W1 B d t k); have HOK := Lib.hid ok; clear t k ok)
        | (go_at_call 12; (with_reducible refine (CM.out _ _ _ _ H1.out HOK.out).mono ?_); rintro e1 W2 ⟨rfl, b⟩; have H2 := Lib.hid (H1.out.step b); clear b; obtain ⟨⟨z0, z1, z2, z3, z4, z5⟩, ⟨f0, f1, f2, f3, f4, f5⟩, ⟨g0, g1⟩, _, _⟩ := HC.out _ _ _ _ H2.out))
      have HZ := Lib.hid (HF.out _ _ _ _ H2.out (.int .u8 0) (.int .u8 0) (.int .u8 0) (.int .i32 0) (.string ⟨#[]⟩) (.slice none 0 0) (.int .i64 3))
      clear z0 z1 z2 z3 z4 z5 f0 f1 f2 f3 f4 f5 g0 g1 HF HC CM CI HN
      unfold set6 at HZ
      generalize ((((((W2.setCell ⟨w.heap.size, 0, none⟩ (.int .u8 0)).setCell ⟨w.heap.size, 1, none⟩ (.int .u8 0)).setCell ⟨w.heap.size, 2, none⟩ (.int .u8 0)).setCell ⟨w.heap.size, 3, none⟩ (.int .i32 0)).setCell ⟨w.heap.size, 4, none⟩ (.string ⟨#[]⟩)).setCell ⟨w.heap.size, 5, none⟩ (.slice none 0 0)).setCell ⟨w.heap.size + 1, 0, none⟩ (.int .i64 3) = X5 at *
      have HY := HZ
      clear HZ
      refine leaves_cons (f := 42) (args := #[.pointer (some ⟨w.heap.size + 1, 0, none⟩)]) (by simp) (by simp [go_sem]) ?_
      refine (fidle ⟨w.heap.size + 1, 0, none⟩ X5).mono ?_
      rintro e u' w'' ⟨rfl, rfl, rfl⟩
      have HQ := Lib.hid (And.intro (bal HY.out.1 (.cells #[.int .i64 0] 76)) (And.intro (HY.out.2.1.alloc (.cells #[.int .i64 0] 76)) (And.intro (HY.out.2.2.1.alloc (.cells #[.int .i64 0] 76)) (HY.out.2.2.2.keep (bal (b0 _) (.cells #[.int .i64 0] 76))))))
      generalize (X5).alloc (.cells #[.int .i64 0] 76) = X6 at *
      obtain ⟨y0, y1, y2, y3, y4, y5⟩ := box6 HQ.out.2.1
      have ye : X6.cell? ⟨w.heap.size + 1, 0, none⟩ = some (.int .i64 3) := (HQ.out.2.2.1.cell 0).trans rfl
      simp [Leaves, settle, results, Tryz.results26, go_sem, y0, y1, y2, y3, y4, y5, ye]
      exact HP.out _ HQ.out.1
    | true =>
      have hf : frontX l = (x, q, 0) := by unfold frontX; rw [hr]; dsimp only; rw [hmay]; rfl
      obtain ⟨n, hn⟩ : ∃ n, x.l.length = n := ⟨_, rfl⟩
      have HP : Hid (∀ X B d, Below w.heap.size w X → TrR X B d x.l → OKe x → GivesFX w (x, q, 0) (.returned (.tuple #[.agg #[.int .u8 (x.k : Int), .int .u8 (x.o : Int), .int .u8 (x.t : Int), .int .i32 x.n, .string (strOf x.s), .slice B n d], .int .i64 (q : Int), .int .i64 0])) X) := Lib.hid fun X B d b t ok => ⟨B, d, by rw [← hn]; rfl, t, ok, b⟩
      rw [hf]
      rw [hmay] at CM
      clear R hm hs h10 hr hf hmay HB
      rw [hn] at HC HF CM HN CI
      clear hn
      unfold frW zC at *
      dsimp only [exV, exC] at *
      generalize hS : strOf x.s = S at *
      clear hS
      generalize GivesFX w (x, q, 0) = POST at *
      go_enter_defers Tryz.func26, Tryz.ntmps26
      go_wp2_with (first
        | (go_at_call 43; (with_reducible refine (CI.out).mono ?_); rintro e1 W1 ⟨B, d, rfl, t, ok, k, hq⟩; have H1 := Lib.hid (HN.out W1 B d t k); have HOK := Lib.hid ok; clear t k ok)
        | (go_at_call 12; (with_reducible refine (CM.out _ _ _ _ H1.out HOK.out).mono ?_); rintro e1 W2 ⟨rfl, b⟩; have H2 := Lib.hid (H1.out.step b); clear b))
      have H3 : Hid (FS w W2.drew x B n d A m c q W1.heap.size) := Lib.hid (H2.out.step (bdrew (b0 W2) 1))
      obtain ⟨⟨z0, z1, z2, z3, z4, z5⟩, ⟨f0, f1, f2, f3, f4, f5⟩, ⟨g0, g1⟩, h0, ⟨x0, x1, x2, x3, x4, x5⟩⟩ := HC.out _ _ _ _ H2.out
      obtain ⟨⟨Z0, Z1, Z2, Z3, Z4, Z5⟩, ⟨F0, F1, F2, F3, F4, F5⟩, ⟨G0, G1⟩, k0, ⟨u0, u1, u2, u3, u4, u5⟩⟩ := HC.out _ _ _ _ H3.out
      refine wp_region_noPanic ?_
      go_region_law (fail)
      all_goals (
        refine NoPanic.normal ?_
        go_wp2
        have HZ := Lib.hid (HF.out _ _ _ _ H2.out (.int .u8 (x.k : Int)) (.int .u8 (x.o : Int)) (.int .u8 (x.t : Int)) (.int .i32 x.n) (.string S) (.slice B n d) (.int .i64 0))
        clear z0 z1 z2 z3 z4 z5 f0 f1 f2 f3 f4 f5 g0 g1 h0 x0 x1 x2 x3 x4 x5 Z0 Z1 Z2 Z3 Z4 Z5 F0 F1 F2 F3 F4 F5 G0 G1 k0 u0 u1 u2 u3 u4 u5 HF HC CM CI HN
        unfold set6 at HZ
        generalize ((((((W2.setCell ⟨w.heap.size, 0, none⟩ (.int .u8 (x.k : Int))).setCell ⟨w.heap.size, 1, none⟩ (.int .u8 (x.o : Int))).setCell ⟨w.heap.size, 2, none⟩ (.int .u8 (x.t : Int))).setCell ⟨w.heap.size, 3, none⟩ (.int .i32 x.n)).setCell ⟨w.heap.size, 4, none⟩ (.string S)).setCell ⟨w.heap.size, 5, none⟩ (.slice B n d)).setCell ⟨w.heap.size + 1, 0, none⟩ (.int .i64 0) = X5 at *
        have hd : Below X5.heap.size X5 X5.drew := bdrew (b0 X5) 1
        have HY := Lib.hid (And.intro (blw HZ.out.1 hd) (And.intro (HZ.out.2.1.below hd) (And.intro (HZ.out.2.2.1.below hd) (HZ.out.2.2.2.keep hd))))
        clear hd
        refine leaves_cons (f := 42) (args := #[.pointer (some ⟨w.heap.size + 1, 0, none⟩)]) (by simp) (by simp [go_sem]) ?_
        refine (fidle ⟨w.heap.size + 1, 0, none⟩ X5.drew).mono ?_
        rintro e u' w'' ⟨rfl, rfl, rfl⟩
        have HQ := Lib.hid (And.intro (bal HY.out.1 (.cells #[.int .i64 0] 76)) (And.intro (HY.out.2.1.alloc (.cells #[.int .i64 0] 76)) (And.intro (HY.out.2.2.1.alloc (.cells #[.int .i64 0] 76)) (HY.out.2.2.2.keep (bal (b0 _) (.cells #[.int .i64 0] 76))))))
        generalize (X5.drew).alloc (.cells #[.int .i64 0] 76) = X6 at *
        obtain ⟨y0, y1, y2, y3, y4, y5⟩ := box6 HQ.out.2.1
        have ye : X6.cell? ⟨w.heap.size + 1, 0, none⟩ = some (.int .i64 0) := (HQ.out.2.2.1.cell 0).trans rfl
        simp [Leaves, settle, results, Tryz.results26, go_sem, y0, y1, y2, y3, y4, y5, ye]
        exact HP.out _ _ _ HQ.out.1 HQ.out.2.2.2 HOK.out)
end Go.Proofs.YtplcmcealeeppaaGreatDoor
