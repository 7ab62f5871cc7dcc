/- The reference: character literals. -/
import Derived.Test.YtplcmcealeeppaaGreatDoorM03
import Derived.Test.YtplcmcealeeppaaGreatDoorM01
set_option linter.unusedVariables false
set_option linter.unusedSimpArgs false
set_option linter.unusedVariables false
set_option linter.unusedSimpArgs false
namespace Go.Proofs.YtplcmcealeeppaaGreatDoor
open Go Go.RowKit L8

/-! ### A box of four that is written whole -/
theorem box4f {W : World} {B : Nat} {t : TypeId} {cs : Array Value} (h : BoxS W B t cs) : W.frozen? ⟨B, 0, none⟩ = false ∧ W.frozen? ⟨B, 1, none⟩ = false ∧ W.frozen? ⟨B, 2, none⟩ = false ∧ W.frozen? ⟨B, 3, none⟩ = false :=
  ⟨h.frozen 0, h.frozen 1, h.frozen 2, h.frozen 3⟩
theorem box4_set0 {W : World} {B : Nat} {t : TypeId} {a b c d : Value} (v : Value) (h : BoxS W B t #[a, b, c, d]) : BoxS (W.setCell ⟨B, 0, none⟩ v) B t #[v, b, c, d] := by
  obtain ⟨hlt, hk⟩ := Array.getElem?_eq_some_iff.1 h
  show (W.heap.modify B _)[B]? = _
  rw [Array.getElem?_eq_getElem (by rw [Array.size_modify]; exact hlt), Array.getElem_modify_self, hk]
  rfl
theorem box4_set1 {W : World} {B : Nat} {t : TypeId} {a b c d : Value} (v : Value) (h : BoxS W B t #[a, b, c, d]) : BoxS (W.setCell ⟨B, 1, none⟩ v) B t #[a, v, c, d] := by
  obtain ⟨hlt, hk⟩ := Array.getElem?_eq_some_iff.1 h
  show (W.heap.modify B _)[B]? = _
  rw [Array.getElem?_eq_getElem (by rw [Array.size_modify]; exact hlt), Array.getElem_modify_self, hk]
  rfl
theorem box4_set2 {W : World} {B : Nat} {t : TypeId} {a b c d : Value} (v : Value) (h : BoxS W B t #[a, b, c, d]) : BoxS (W.setCell ⟨B, 2, none⟩ v) B t #[a, b, v, d] := by
  obtain ⟨hlt, hk⟩ := Array.getElem?_eq_some_iff.1 h
  show (W.heap.modify B _)[B]? = _
  rw [Array.getElem?_eq_getElem (by rw [Array.size_modify]; exact hlt), Array.getElem_modify_self, hk]
  rfl
theorem box4_set3 {W : World} {B : Nat} {t : TypeId} {a b c d : Value} (v : Value) (h : BoxS W B t #[a, b, c, d]) : BoxS (W.setCell ⟨B, 3, none⟩ v) B t #[a, b, c, v] := by
  obtain ⟨hlt, hk⟩ := Array.getElem?_eq_some_iff.1 h
  show (W.heap.modify B _)[B]? = _
  rw [Array.getElem?_eq_getElem (by rw [Array.size_modify]; exact hlt), Array.getElem_modify_self, hk]
  rfl
def set4 (W : World) (B : Nat) (a b c d : Value) : World := (((W.setCell ⟨B, 0, none⟩ a).setCell ⟨B, 1, none⟩ b).setCell ⟨B, 2, none⟩ c).setCell ⟨B, 3, none⟩ d
theorem box4_all {W : World} {B : Nat} {t : TypeId} {a' b' c' d' : Value} (a b c d : Value) (h : BoxS W B t #[a', b', c', d']) : BoxS (set4 W B a b c d) B t #[a, b, c, d] := box4_set3 _ (box4_set2 _ (box4_set1 _ (box4_set0 _ h)))
theorem bset4 {n : Nat} {w W : World} (h : Below n w W) {B : Nat} (hB : n ≤ B) (a b c d : Value) : Below n w (set4 W B a b c d) := bset (bset (bset (bset h hB _) hB _) hB _) hB _
/-! ### Literals -/
def QR (o : Option (Nat × Nat)) (e : Ending) : Prop := match o with
  | some (v, n) => e = .returned (.tuple #[.agg #[.int .u8 4, .int .i64 0, .string ⟨#[]⟩, .int .i32 (v : Int)], .int .i64 (n : Int)])
  | none => e = .returned (.tuple #[.agg #[.int .u8 0, .int .i64 0, .string ⟨#[]⟩, .int .i32 0], .int .i64 0])
theorem quoted_none {s : Bs} (h : ∀ m, 3 ≤ m → m ≤ 6 → quote s m = none) : L8.quoted s = none := by
  cases hq : L8.quoted s with
  | none => rfl
  | some q =>
    obtain ⟨v, n⟩ := q
    obtain ⟨h1, h2, h3, _⟩ := quoted_iff.1 hq
    rw [h n h1 h2] at h3
    cases h3
theorem quote_far {s : Bs} {m : Nat} (h : ¬ m ≤ s.length) : quote s m = none := by unfold quote; rw [if_neg h]
theorem quote_no {s : Bs} {m : Nat} (h : escape ((s.take (m - 1)).drop 1) = none) : quote s m = none := by
  unfold quote
  split
  · rw [h]
  · rfl
theorem quote_end {s : Bs} {m v : Nat} (h : escape ((s.take (m - 1)).drop 1) = some v) (h2 : s.getD (m - 1) 0 ≠ 39) : quote s m = none := by
  unfold quote
  rw [h]
  by_cases hm : m ≤ s.length
  · rw [if_pos hm]; exact if_neg h2
  · rw [if_neg hm]
theorem quote_yes {s : Bs} {m v : Nat} (hm : m ≤ s.length) (h : escape ((s.take (m - 1)).drop 1) = some v) (h2 : s.getD (m - 1) 0 = 39) : quote s m = some (v, m) := by
  unfold quote
  rw [if_pos hm, h]; exact if_pos h2
def z4 : Array Value := #[.int .u8 0, .int .i64 0, .string ⟨#[]⟩, .int .i32 0]
end Go.Proofs.YtplcmcealeeppaaGreatDoor
/- The program's contracts, as hypotheses; trees that the laws make. -/
set_option linter.unusedVariables false
set_option linter.unusedSimpArgs false
namespace Go.Proofs.YtplcmcealeeppaaGreatDoor
open Go Go.RowKit L8 L10

/-- What Front gives. -/
def GivesFX (w : World) (r : Ex × Nat × Int) (en : Ending) (w' : World) : Prop := ∃ A c, en = .returned (.tuple #[exV r.1 A r.1.l.length c, .int .i64 (r.2.1 : Int), .int .i64 r.2.2]) ∧ TrR w' A c r.1.l ∧ OKe r.1 ∧ Below w.heap.size w w'
/-- The contracts of package expr. -/
structure Pc : Prop where
  may : ∀ (e : Ex) (A : Option Addr) (n c : Nat) (w : World), TrR w A c e.l → e.l.length = n → OKe e → T10 w → Calls Tryz.prog 12 #[exV e A n c] w fun en w' => en = .returned (.bool (mayE e)) ∧ Below w.heap.size w w'
  size : ∀ (e : Ex) (A : Option Addr) (n c : Nat) (w : World), TrR w A c e.l → e.l.length = n → OKe e → szE e ≤ 1000000 → T10 w → Calls Tryz.prog 14 #[exV e A n c] w fun en w' => en = .returned (.int .i64 (szE e : Int)) ∧ Below w.heap.size w w'
  names : ∀ (e : Ex) (A : Option Addr) (n c : Nat) (w : World), TrR w A c e.l → e.l.length = n → OKe e → szE e ≤ 999999 → T10 w → Calls Tryz.prog 17 #[exV e A n c] w fun en w' => ∃ B d, en = .returned (.slice B (nmE e).length d) ∧ SS w' B d (nmE e) ∧ Below w.heap.size w w'
  same : ∀ (e f : Ex) (A B : Option Addr) (n m c d : Nat) (w : World), TrR w A c e.l → e.l.length = n → OKe e → TrR w B d f.l → f.l.length = m → OKe f → szE e ≤ 1000000 → szE f ≤ 1000000 → Calls Tryz.prog 19 #[exV e A n c, exV f B m d] w fun en w' => en = .returned (.bool (decide (e = f))) ∧ Below w.heap.size w w'
  word : ∀ (o : Nat), o < 256 → ∀ (w : World), T10 w → Calls Tryz.prog 10 #[.int .u8 (o : Int)] w fun en w' => en = .returned (.tuple #[.string (strOf (opW o)), .bool (isOp o)]) ∧ Below w.heap.size w w'
  toks : ∀ (e : Ex) (A : Option Addr) (n c : Nat) (w : World), TrR w A c e.l → e.l.length = n → OKe e → T10 w → Calls Tryz.prog 22 #[exV e A n c] w fun en w' => ∃ B d, en = .returned (.tuple #[.slice B (toksX e).1.length d, .int .i64 (toksX e).2]) ∧ OwnR w' 47 w.heap.size B (toksX e).1.length d (toksX e).1 ∧ Below w.heap.size w w'
  front : ∀ (l : List Tk) (A : Option Addr) (m c : Nat) (w : World), RR w A c l → l.length = m → m ≤ 4000000 → T10 w → Calls Tryz.prog 26 #[.slice A m c] w (GivesFX w (frontX l))
/-! ### Rows of trees that are made -/
def exL (e : Ex) (A : Option Addr) (n c : Nat) : List Value := [.int .u8 (e.k : Int), .int .u8 (e.o : Int), .int .u8 (e.t : Int), .int .i32 e.n, .string (strOf e.s), .slice A n c]
theorem exAt_box {w : World} {q o : Nat} {t : TypeId} {cs : Array Value} (h : BoxS w q t cs) (e : Ex) (A : Option Addr) (c : Nat) (hc : ∀ j, j < 6 → cs[o + j]? = (exL e A e.l.length c)[j]?) : ExAt w ⟨q, o, none⟩ e A c := by
  have hh : ∀ j, j < 6 → w.cell? ⟨q, o + j, none⟩ = (exL e A e.l.length c)[j]? := fun j hj => (h.cell (o + j)).trans (hc j hj)
  exact ⟨hh 0 (by omega), hh 1 (by omega), hh 2 (by omega), hh 3 (by omega), hh 4 (by omega), hh 5 (by omega)⟩
theorem TrR.one {w : World} {q : Nat} {t : TypeId} {y : Ex} {A : Option Addr} {c : Nat} (h : BoxS w q t (exL y A y.l.length c).toArray) (R : TrR w A c y.l) (ok : OKe y) : TrR w (some ⟨q, 0, none⟩) 1 [y] := by
  refine .mk (fun _ => A) (fun _ => c) (by simp) (by unfold maxLen; decide) (fun j hj => ?_) (fun j hj => ⟨_, rfl, ?_⟩) (fun j hj => ?_)
  all_goals obtain rfl : j = 0 := by have : j < 1 := hj; omega
  · exact ok
  · exact exAt_box h y A c (fun j hj => by simp)
  · exact R
theorem TrR.two {w : World} {q : Nat} {t : TypeId} {a b : Ex} {A B : Option Addr} {c d : Nat} (h : BoxS w q t (exL a A a.l.length c ++ exL b B b.l.length d).toArray) (R : TrR w A c a.l) (Q : TrR w B d b.l) (oka : OKe a) (okb : OKe b) : TrR w (some ⟨q, 0, none⟩) 2 [a, b] := by
  refine .mk (fun j => if j = 0 then A else B) (fun j => if j = 0 then c else d) (by simp) (by unfold maxLen; decide) (fun j hj => ?_) (fun j hj => ⟨_, rfl, ?_⟩) (fun j hj => ?_)
  all_goals
    have hj2 : j < 2 := hj
    rcases (by omega : j = 0 ∨ j = 1) with rfl | rfl
  · exact oka
  · exact okb
  · exact exAt_box h a A c (fun j hj => by
      rw [List.getElem?_toArray, Nat.zero_add, List.getElem?_append_left hj])
  · rw [add_plain]
    exact exAt_box h b B d (fun j hj => by
      rw [List.getElem?_toArray, List.getElem?_append_right (by simp [exL])]
      congr 1
      simp [exL])
  · exact R
  · exact Q
set_option maxRecDepth 100000 in
theorem name_any (s : ByteArray) (w : World) : Calls Tryz.prog 31 #[.string s] w fun en w' => en = .returned (.agg #[.int .u8 4, .int .u8 0, .int .u8 0, .int .i32 0, .string s, .slice none 0 0]) ∧ Below w.heap.size w w' := by
  go_enter Tryz.func31, Tryz.ntmps31
  go_wp2
  first
  | (go_ret
     exact ⟨rfl, bal (b0 w) _⟩)
  | (refine bodyPost_ret (v := .agg #[.int .u8 4, .int .u8 0, .int .u8 0, .int .i32 0, .string s, .slice none 0 0]) (by simp [results, Tryz.results31, go_sem]) rfl ⟨rfl, bal (b0 w) _⟩)
set_option maxRecDepth 100000 in
set_option maxHeartbeats 4000000 in
theorem two_any (o : Nat) (a b : Ex) (A B : Option Addr) (n m c d : Nat) (w : World) (R : TrR w A c a.l) (hn : a.l.length = n) (oka : OKe a) (Q : TrR w B d b.l) (hm : b.l.length = m) (okb : OKe b) :
    Calls Tryz.prog 32 #[.int .u8 (o : Int), exV a A n c, exV b B m d] w fun en w' => ∃ q, en = .returned (.agg #[.int .u8 7, .int .u8 (o : Int), .int .u8 0, .int .i32 0, .string ⟨#[]⟩, .slice (some ⟨q, 0, none⟩) 2 2]) ∧ TrR w' (some ⟨q, 0, none⟩) 2 [a, b] ∧ Below w.heap.size w w' := by
  have HR : Hid (∀ (X : World) (cs : Array Value), Below w.heap.size w (X.alloc (.cells cs 27)) → cs = (exL a A n c ++ exL b B m d).toArray → TrR (X.alloc (.cells cs 27)) (some ⟨X.heap.size, 0, none⟩) 2 [a, b]) := Lib.hid fun X cs hb e => by
    subst e
    subst hn hm
    exact TrR.two (boxS_new X _ _) (R.keep hb) (Q.keep hb) oka okb
  clear R Q oka okb hn hm
  dsimp only [exV, exL, List.cons_append, List.nil_append] at *
  generalize hSa : strOf a.s = Sa at *
  generalize hSb : strOf b.s = Sb at *
  clear hSa hSb
  go_enter Tryz.func32, Tryz.ntmps32
  go_wp2
  have HF := Lib.hid (bal (bal (bal (bal (b0 w) (.cells #[.int .u8 (a.k : Int), .int .u8 (a.o : Int), .int .u8 (a.t : Int), .int .i32 a.n, .string Sa, .slice A n c] 27)) (.cells #[.int .u8 (b.k : Int), .int .u8 (b.o : Int), .int .u8 (b.t : Int), .int .i32 b.n, .string Sb, .slice B m d] 27)) (.cells #[.int .u8 7, .int .u8 (o : Int), .int .u8 0, .int .i32 0, .string ⟨#[]⟩, .slice (some ⟨w.heap.size + 1 + 1 + 1, 0, none⟩) 2 2] 27)) (.cells #[.int .u8 (a.k : Int), .int .u8 (a.o : Int), .int .u8 (a.t : Int), .int .i32 a.n, .string Sa, .slice A n c, .int .u8 (b.k : Int), .int .u8 (b.o : Int), .int .u8 (b.t : Int), .int .i32 b.n, .string Sb, .slice B m d] 27))
  have HT := HR.out _ _ HF.out rfl
  rw [World.size_alloc, World.size_alloc, World.size_alloc] at HT
  have HT2 := Lib.hid HT
  clear HT
  refine bodyPost_ret (v := .agg #[.int .u8 7, .int .u8 (o : Int), .int .u8 0, .int .i32 0, .string ⟨#[]⟩, .slice (some ⟨w.heap.size + 1 + 1 + 1, 0, none⟩) 2 2]) (by simp [results, Tryz.results32, go_sem]) rfl ⟨_, rfl, HT2.out, HF.out⟩
/-! ### Lines that are read -/
theorem okl_tk {s : Bs} {l : List Tk} {n e : Int} (h : tokens s = (l, n, e)) (hk : OKL (tokens s).1) : OKL l := by rw [h] at hk; exact hk
end Go.Proofs.YtplcmcealeeppaaGreatDoor
/- The program's readers of one token, and how one is chosen. -/
set_option linter.unusedVariables false
set_option linter.unusedSimpArgs false
namespace Go.Proofs.YtplcmcealeeppaaGreatDoor
open Go Go.RowKit L8

/-! ### The function that is chosen -/
def pickF (c : UInt8) : FuncId := if letter c = true then 82 else if digit c = true then 84 else if c = 35 then 85 else if c = 39 then 86 else 87
theorem pick_1 {c : UInt8} (h : letter c = true) : pickF c = 82 := by unfold pickF; rw [if_pos h]
theorem pick_2 {c : UInt8} (h : letter c = false) (h2 : digit c = true) : pickF c = 84 := by unfold pickF; rw [if_neg (by rw [h]; decide), if_pos h2]
theorem pick_3 : pickF 35 = 85 := by decide
theorem pick_4 : pickF 39 = 86 := by decide
theorem pick_5 {c : UInt8} (h : letter c = false) (h2 : digit c = false) (h3 : c ≠ 35) (h4 : c ≠ 39) : pickF c = 87 := by unfold pickF; rw [if_neg (by rw [h]; decide), if_neg (by rw [h2]; decide), if_neg h3, if_neg h4]
set_option maxRecDepth 100000 in
set_option maxHeartbeats 8000000 in
theorem chosen_any {b p : Nat} {L r : Bs} {c : UInt8} {w : World} (h : Rd w b L p) (hL : L.length ≤ 256) (hc : L.drop p = c :: r) : Calls Tryz.prog 52 #[.pointer (some ⟨b, 0, none⟩)] w fun e w' => e = .returned (.func (.func (pickF c)) #[.pointer (some ⟨b, 0, none⟩)] #[]) ∧ Below w.heap.size w w' := by
  have hp : p < L.length := by
    have := congrArg List.length hc
    rw [List.length_drop, List.length_cons] at this
    omega
  have hg : L.getD p 0 = c := by
    have h2 : L.drop p = L[p] :: L.drop (p + 1) := List.drop_eq_getElem_cons hp
    rw [hc] at h2
    injection h2 with h2 _
    simp [hp, h2]
  have hmf : ∀ (fn : Fn) (first cap : Array Value) (w : World), (Instr.makeFunc fn first cap).run Tryz.prog w = .ok (.func fn first cap) w := fun _ _ _ _ => rfl
  obtain ⟨c0, c1, f1, hb⟩ := h.cells
  have hi := index_l L p hp
  rw [hg] at hi
  have hp0 : (0 : Int) ≤ (p : Int) := by omega
  have hsz := size_strOf L
  have CL := Lib.hid (fun (W : World) => isLetter_any c W)
  have CD := Lib.hid (fun (W : World) => isDigit_any c W)
  have q35 : ((c.toNat : Int) == 35) = decide (c = 35) := byte_eq c 35 (by decide) 35 rfl
  have q39 : ((c.toNat : Int) == 39) = decide (c = 39) := byte_eq c 39 (by decide) 39 rfl
  have HB := Lib.hid (fun n => bdrew (b0 w) n)
  have hpl : (p : Int) < (L.length : Int) := by omega
  clear h hL hg hp hc hb
  rcases token_cases c with h1 | ⟨h1, h2⟩ | rfl | rfl | ⟨h1, h2, h3, h4⟩
  · rw [pick_1 h1]
    rw [h1] at CL
    clear h1
    generalize c.toNat = N at *
    generalize strOf L = S at *
    go_enter Tryz.func52, Tryz.ntmps52
    go_wp2
    go_quiet (fail)
    go_wp2_with (first
      | (go_at_call 81; (with_reducible refine (CL.out _).mono ?_); rintro e w1 ⟨rfl, rfl⟩)
      | (go_at_call 83; (with_reducible refine (CD.out _).mono ?_); rintro e w1 ⟨rfl, rfl⟩))
    go_ret
    exact ⟨rfl, HB.out _⟩
  · rw [pick_2 h1 h2]
    rw [h1] at CL
    rw [h2] at CD
    clear h1 h2
    generalize c.toNat = N at *
    generalize strOf L = S at *
    go_enter Tryz.func52, Tryz.ntmps52
    go_wp2
    go_quiet (fail)
    go_wp2_with (first
      | (go_at_call 81; (with_reducible refine (CL.out _).mono ?_); rintro e w1 ⟨rfl, rfl⟩)
      | (go_at_call 83; (with_reducible refine (CD.out _).mono ?_); rintro e w1 ⟨rfl, rfl⟩))
    go_ret
    exact ⟨rfl, HB.out _⟩
  · rw [pick_3]
    rw [show letter 35 = false by decide] at CL
    rw [show digit 35 = false by decide] at CD
    rw [show decide ((35 : UInt8) = 35) = true by decide] at q35
    generalize (35 : UInt8).toNat = N at *
    generalize strOf L = S at *
    go_enter Tryz.func52, Tryz.ntmps52
    go_wp2
    go_quiet (fail)
    go_wp2_with (first
      | (go_at_call 81; (with_reducible refine (CL.out _).mono ?_); rintro e w1 ⟨rfl, rfl⟩)
      | (go_at_call 83; (with_reducible refine (CD.out _).mono ?_); rintro e w1 ⟨rfl, rfl⟩))
    go_ret
    exact ⟨rfl, HB.out _⟩
  · rw [pick_4]
    rw [show letter 39 = false by decide] at CL
    rw [show digit 39 = false by decide] at CD
    rw [show decide ((39 : UInt8) = 35) = false by decide] at q35
    rw [show decide ((39 : UInt8) = 39) = true by decide] at q39
    generalize (39 : UInt8).toNat = N at *
    generalize strOf L = S at *
    go_enter Tryz.func52, Tryz.ntmps52
    go_wp2
    go_quiet (fail)
    go_wp2_with (first
      | (go_at_call 81; (with_reducible refine (CL.out _).mono ?_); rintro e w1 ⟨rfl, rfl⟩)
      | (go_at_call 83; (with_reducible refine (CD.out _).mono ?_); rintro e w1 ⟨rfl, rfl⟩))
    go_ret
    exact ⟨rfl, HB.out _⟩
  · rw [pick_5 h1 h2 h3 h4]
    rw [h1] at CL
    rw [h2] at CD
    rw [decide_eq_false h3] at q35
    rw [decide_eq_false h4] at q39
    clear h1 h2 h3 h4
    generalize c.toNat = N at *
    generalize strOf L = S at *
    go_enter Tryz.func52, Tryz.ntmps52
    go_wp2
    go_quiet (fail)
    go_wp2_with (first
      | (go_at_call 81; (with_reducible refine (CL.out _).mono ?_); rintro e w1 ⟨rfl, rfl⟩)
      | (go_at_call 83; (with_reducible refine (CD.out _).mono ?_); rintro e w1 ⟨rfl, rfl⟩))
    go_ret
    exact ⟨rfl, HB.out _⟩
/-! ### What a reader of one token leaves -/
def S4 (w X : World) (b : Nat) (L : Bs) (p : Nat) (cs : Array Value) : Prop := w.grownBy X (some b) ∧ Rd X b L p ∧ BoxS X w.heap.size 47 cs ∧ b < w.heap.size ∧ W1.Tab X
theorem S4.new {w : World} {b p : Nat} {L : Bs} (h : Rd w b L p) (ht : W1.Tab w) : S4 w (w.alloc (.cells #[.int .u8 0, .int .i64 0, .string ⟨#[]⟩, .int .i32 0] 47)) b L p #[.int .u8 0, .int .i64 0, .string ⟨#[]⟩, .int .i32 0] :=
  ⟨World.grownBy_alloc w _ _, BoxS.alloc h _, boxS_new w _ _, h.cells.2.2.2, ht.below (bal (b0 w) _)⟩
theorem S4.tab {w X : World} {b p : Nat} {L : Bs} {cs : Array Value} (h : S4 w X b L p cs) : W1.Tab X := h.2.2.2.2
theorem S4.below {w X Y : World} {b p : Nat} {L : Bs} {cs : Array Value} (h : S4 w X b L p cs) (k : Below X.heap.size X Y) : S4 w Y b L p cs :=
  ⟨g_trans h.1 (g_any (g_of_below k) _), h.2.1.below k, h.2.2.1.below k, h.2.2.2.1, h.2.2.2.2.below k⟩
theorem S4.read {w X Y : World} {b p q : Nat} {L : Bs} {cs : Array Value} (h : S4 w X b L p cs) (k : ReadR X Y b L q) : S4 w Y b L q cs :=
  ⟨g_trans h.1 k.2, k.1, h.2.2.1.kept k.2 (fun e => by injection e with e; have := h.2.2.2.1; omega), h.2.2.2.1, h.2.1.tab h.2.2.2.2 k.2⟩
theorem S4.fin {w X : World} {b p : Nat} {L : Bs} {a' b' c' d' : Value} (x y z u : Value) (h : S4 w X b L p #[a', b', c', d']) : S4 w (set4 X w.heap.size x y z u) b L p #[x, y, z, u] := by
  have hne : b ≠ w.heap.size := by have := h.2.2.2.1; omega
  have hg : w.grownBy (set4 X w.heap.size x y z u) (some b) := g_setN (g_setN (g_setN (g_setN h.1 (Nat.le_refl _) _) (Nat.le_refl _) _) (Nat.le_refl _) _) (Nat.le_refl _) _
  have hk : Below w.heap.size X (set4 X w.heap.size x y z u) := bset4 (Below.refl _ _) (Nat.le_refl _) x y z u
  refine ⟨hg, ?_, box4_all x y z u h.2.2.1, h.2.2.2.1, ?_⟩
  · exact boxS_other (boxS_other (boxS_other (boxS_other h.2.1 hne _) hne _) hne _) hne _
  · have ht := h.2.2.2.2
    have hB := h.2.2.1
    unfold W1.Tab Lib.TabIs World.var? at *
    cases hgn : Tryz.prog.globalNamed "internal/strconv.uint64pow10" with
    | none => simp [hgn] at ht
    | some q =>
      simp only [hgn, Option.bind_some] at ht ⊢
      by_cases hq : q = w.heap.size
      · exfalso
        subst hq
        have h2 : X.heap[w.heap.size]? = some (.cells #[a', b', c', d'] 47 (0, 0)) := hB
        rw [h2] at ht
        simp only [Option.some.injEq] at ht
        have := congrArg (fun a => a.size) ht
        simp [Lib.pow10Tab] at this
      · have e : (set4 X w.heap.size x y z u).heap[q]? = X.heap[q]? := by
          unfold set4
          rw [Below.heap_setCell _ ⟨w.heap.size, 3, none⟩ _ q hq, Below.heap_setCell _ ⟨w.heap.size, 2, none⟩ _ q hq, Below.heap_setCell _ ⟨w.heap.size, 1, none⟩ _ q hq, Below.heap_setCell _ ⟨w.heap.size, 0, none⟩ _ q hq]
        rw [e]
        exact ht
def RdR (o : Option (Nat × Bs × Int × Nat)) (L : Bs) (p b : Nat) (w : World) (e : Ending) (w' : World) : Prop := w.grownBy w' (some b) ∧ match o with
  | some (k, tx, v, n) => e = .returned (.tuple #[.agg #[.int .u8 (k : Int), .int .i64 0, .string (strOf tx), .int .i32 v], .bool true]) ∧ Rd w' b L (p + n)
  | none => ∃ (k : Nat) (tx : ByteArray) (v : Int), e = .returned (.tuple #[.agg #[.int .u8 (k : Int), .int .i64 0, .string tx, .int .i32 v], .bool false])
theorem rdr_some {s : Bs} {k n : Nat} {tx : Bs} {v : Int} {w W : World} {b p : Nat} {L : Bs} {cs : Array Value} (h : L8.token s = some (k, tx, v, n)) (H : S4 w W b L (p + n) cs) : RdR (L8.token s) L p b w (.returned (.tuple #[.agg #[.int .u8 (k : Int), .int .i64 0, .string (strOf tx), .int .i32 v], .bool true])) W := by
  rw [h]; exact ⟨H.1, rfl, H.2.1⟩
theorem rdr_none {s : Bs} {k q : Nat} {tx : ByteArray} {v : Int} {w W : World} {b p : Nat} {L : Bs} {cs : Array Value} (h : L8.token s = none) (H : S4 w W b L q cs) : RdR (L8.token s) L p b w (.returned (.tuple #[.agg #[.int .u8 (k : Int), .int .i64 0, .string tx, .int .i32 v], .bool false])) W := by
  rw [h]; exact ⟨H.1, k, tx, v, rfl⟩
theorem tw_take {c : UInt8} (r : Bs) (h : wordB c = true) : (c :: r).takeWhile wordB = (c :: r).take (1 + wrun r) ∧ ((c :: r).takeWhile wordB).length = 1 + wrun r ∧ ((c :: r).takeWhile wordB).all wordB = true ∧ (c :: r).takeWhile wordB ≠ [] := by
  have e : ∀ l : Bs, l.takeWhile wordB = l.take (l.takeWhile wordB).length := fun l => (List.prefix_iff_eq_take.1 (List.takeWhile_prefix wordB))
  have hl : ((c :: r).takeWhile wordB).length = 1 + wrun r := by rw [List.takeWhile_cons_of_pos h, List.length_cons]; unfold wrun; omega
  refine ⟨by rw [e (c :: r), hl], hl, ?_, by rw [List.takeWhile_cons_of_pos h]; simp⟩
  rw [List.all_eq_true]
  exact fun x hx => List.all_eq_true.1 List.all_takeWhile x hx
theorem drop_len {L r : Bs} {c : UInt8} {p : Nat} (hc : L.drop p = c :: r) : p + (1 + r.length) = L.length ∧ p < L.length := by
  have := congrArg List.length hc
  rw [List.length_drop, List.length_cons] at this
  omega
theorem drop_more {L r : Bs} {c : UInt8} {p : Nat} (hc : L.drop p = c :: r) : L.drop (p + 1) = r := by
  rw [← List.drop_drop, hc]; rfl
/-! ### Words and numbers -/
set_option maxRecDepth 100000 in
set_option maxHeartbeats 8000000 in
theorem readWord_any {b p : Nat} {L r : Bs} {c : UInt8} {w : World} (h : Rd w b L p) (ht : W1.Tab w) (hL : L.length ≤ 256) (hc : L.drop p = c :: r) (h1 : letter c = true) : Calls Tryz.prog 82 #[.pointer (some ⟨b, 0, none⟩)] w (RdR (L8.token (c :: r)) L p b w) := by
  obtain ⟨hl, hp⟩ := drop_len hc
  have hw : wordB c = true := by unfold wordB; rw [h1]; rfl
  have hwl := wrun_le r
  obtain ⟨t1, t2, t3, t4⟩ := tw_take r hw
  obtain ⟨m, hm⟩ : ∃ m, 1 + wrun r = m := ⟨_, rfl⟩
  have CR : Hid (∀ X, S4 w X b L p #[.int .u8 0, .int .i64 0, .string ⟨#[]⟩, .int .i32 0] → Calls Tryz.prog 106 #[.pointer (some ⟨b, 0, none⟩)] X fun e w' => e = .returned (.string (strOf (c :: r))) ∧ Below X.heap.size X w') := Lib.hid fun X H => by
    have := rest_any H.2.1 hL (by omega)
    rwa [hc] at this
  have CB := Lib.hid (fun (W : World) => wordBytes_any (c :: r) (by unfold maxLen; rw [List.length_cons]; omega) W)
  have CT : Hid (∀ X, S4 w X b L p #[.int .u8 0, .int .i64 0, .string ⟨#[]⟩, .int .i32 0] → Calls Tryz.prog 105 #[.pointer (some ⟨b, 0, none⟩), .int .i64 (m : Int)] X fun e w' => e = .returned (.string (strOf ((c :: r).takeWhile wordB))) ∧ ReadR X w' b L (p + m)) := Lib.hid fun X H => by
    have := take_any (m := m) H.2.1 hL (by omega)
    rwa [hc, ← hm, ← t1, hm] at this
  have hsz := size_strOf ((c :: r).takeWhile wordB)
  rw [t2, hm] at hsz
  have H0 := Lib.hid (S4.new h ht)
  have hm0 : (0 : Int) ≤ (m : Int) := by omega
  have ht1 := token_word (r := r) h1
  rw [← t1, hm] at ht1
  have CK := Lib.hid (fun (W : World) => Key_any ((c :: r).takeWhile wordB) W)
  have CN := Lib.hid (fun (W : World) => Name_any ((c :: r).takeWhile wordB) (by unfold maxLen; omega) W)
  clear h ht hL hc hl hp hwl t1 t2 t3 t4 hm
  generalize (c :: r).takeWhile wordB = T at *
  have HS := Lib.hid (fun (k : Nat) (W : World) (cs : Array Value) (e : L8.token (c :: r) = some (k, T, 0, m)) (H : S4 w W b L (p + m) cs) => rdr_some e H)
  have HN := Lib.hid (fun (k : Nat) (W : World) (cs : Array Value) (e : L8.token (c :: r) = none) (H : S4 w W b L (p + m) cs) => rdr_none (k := k) (tx := strOf T) (v := 0) (p := p) e H)
  cases hk : isKey T with
  | true =>
    rw [hk] at ht1 CK
    rw [if_pos rfl] at ht1
    have HE := Lib.hid (fun (W : World) (cs : Array Value) (H : S4 w W b L (p + m) cs) => HS.out 2 W cs ht1 H)
    clear HS HN ht1 hk h1 hw
    generalize strOf T = TT at *
    generalize strOf (c :: r) = S at *
    generalize RdR (L8.token (c :: r)) L p b w = P at *
    go_enter Tryz.func82, Tryz.ntmps82
    go_wp2_with (first
      | (go_at_call 106; (with_reducible refine (CR.out _ H0.out).mono ?_); rintro e w1 ⟨rfl, b1⟩; have H1 := Lib.hid (H0.out.below b1); clear b1)
      | (go_at_call 98; (with_reducible refine (CB.out _).mono ?_); rintro e w2 ⟨rfl, rfl⟩)
      | (go_at_call 105; (with_reducible refine (CT.out _ H1.out).mono ?_); rintro e w3 ⟨rfl, r1⟩; have H2 := Lib.hid (H1.out.read r1); clear r1; obtain ⟨⟨x0, x1, x2, x3⟩, xl⟩ := box4 H2.out.2.2.1; obtain ⟨f0, f1, f2, f3⟩ := box4f H2.out.2.2.1)
      | (go_at_call 74; (with_reducible refine (CK.out _).mono ?_); rintro e w4 ⟨rfl, rfl⟩)
      | (go_at_call 73; (with_reducible refine (CN.out _).mono ?_); rintro e w4 ⟨rfl, rfl⟩))
    have HF := Lib.hid (S4.fin (.int .u8 2) (.int .i64 0) (.string TT) (.int .i32 0) H2.out)
    unfold set4 at HF
    clear x0 x1 x2 x3 f0 f1 f2 f3 
    generalize (((w3.setCell ⟨w.heap.size, 0, none⟩ (.int .u8 2)).setCell ⟨w.heap.size, 1, none⟩ (.int .i64 0)).setCell ⟨w.heap.size, 2, none⟩ (.string TT)).setCell ⟨w.heap.size, 3, none⟩ (.int .i32 0) = W5 at *
    obtain ⟨⟨y0, y1, y2, y3⟩, yl⟩ := box4 HF.out.2.2.1
    refine bodyPost_ret (v := .tuple #[.agg #[.int .u8 2, .int .i64 0, .string TT, .int .i32 0], .bool true]) (by simp [results, Tryz.results82, go_sem, y0, y1, y2, y3]) rfl ?_
    exact HE.out _ _ HF.out
  | false =>
    rw [hk] at ht1 CK
    rw [if_neg (by decide)] at ht1
    cases hn : isName T with
    | true =>
      rw [hn] at ht1 CN
      rw [if_pos rfl] at ht1
      have HE := Lib.hid (fun (W : World) (cs : Array Value) (H : S4 w W b L (p + m) cs) => HS.out 1 W cs ht1 H)
      clear HS HN ht1 hk h1 hw hn
      generalize strOf T = TT at *
      generalize strOf (c :: r) = S at *
      generalize RdR (L8.token (c :: r)) L p b w = P at *
      go_enter Tryz.func82, Tryz.ntmps82
      go_wp2_with (first
        | (go_at_call 106; (with_reducible refine (CR.out _ H0.out).mono ?_); rintro e w1 ⟨rfl, b1⟩; have H1 := Lib.hid (H0.out.below b1); clear b1)
        | (go_at_call 98; (with_reducible refine (CB.out _).mono ?_); rintro e w2 ⟨rfl, rfl⟩)
        | (go_at_call 105; (with_reducible refine (CT.out _ H1.out).mono ?_); rintro e w3 ⟨rfl, r1⟩; have H2 := Lib.hid (H1.out.read r1); clear r1; obtain ⟨⟨x0, x1, x2, x3⟩, xl⟩ := box4 H2.out.2.2.1; obtain ⟨f0, f1, f2, f3⟩ := box4f H2.out.2.2.1)
        | (go_at_call 74; (with_reducible refine (CK.out _).mono ?_); rintro e w4 ⟨rfl, rfl⟩)
        | (go_at_call 73; (with_reducible refine (CN.out _).mono ?_); rintro e w4 ⟨rfl, rfl⟩))
      have HF := Lib.hid (S4.fin (.int .u8 1) (.int .i64 0) (.string TT) (.int .i32 0) H2.out)
      unfold set4 at HF
      clear x0 x1 x2 x3 f0 f1 f2 f3 
      generalize (((w3.setCell ⟨w.heap.size, 0, none⟩ (.int .u8 1)).setCell ⟨w.heap.size, 1, none⟩ (.int .i64 0)).setCell ⟨w.heap.size, 2, none⟩ (.string TT)).setCell ⟨w.heap.size, 3, none⟩ (.int .i32 0) = W5 at *
      obtain ⟨⟨y0, y1, y2, y3⟩, yl⟩ := box4 HF.out.2.2.1
      refine bodyPost_ret (v := .tuple #[.agg #[.int .u8 1, .int .i64 0, .string TT, .int .i32 0], .bool true]) (by simp [results, Tryz.results82, go_sem, y0, y1, y2, y3]) rfl ?_
      exact HE.out _ _ HF.out
    | false =>
      rw [hn] at ht1 CN
      rw [if_neg (by decide)] at ht1
      have HE := Lib.hid (fun (W : World) (cs : Array Value) (H : S4 w W b L (p + m) cs) => HN.out 1 W cs ht1 H)
      clear HS HN ht1 hk h1 hw hn
      generalize strOf T = TT at *
      generalize strOf (c :: r) = S at *
      generalize RdR (L8.token (c :: r)) L p b w = P at *
      go_enter Tryz.func82, Tryz.ntmps82
      go_wp2_with (first
        | (go_at_call 106; (with_reducible refine (CR.out _ H0.out).mono ?_); rintro e w1 ⟨rfl, b1⟩; have H1 := Lib.hid (H0.out.below b1); clear b1)
        | (go_at_call 98; (with_reducible refine (CB.out _).mono ?_); rintro e w2 ⟨rfl, rfl⟩)
        | (go_at_call 105; (with_reducible refine (CT.out _ H1.out).mono ?_); rintro e w3 ⟨rfl, r1⟩; have H2 := Lib.hid (H1.out.read r1); clear r1; obtain ⟨⟨x0, x1, x2, x3⟩, xl⟩ := box4 H2.out.2.2.1; obtain ⟨f0, f1, f2, f3⟩ := box4f H2.out.2.2.1)
        | (go_at_call 74; (with_reducible refine (CK.out _).mono ?_); rintro e w4 ⟨rfl, rfl⟩)
        | (go_at_call 73; (with_reducible refine (CN.out _).mono ?_); rintro e w4 ⟨rfl, rfl⟩))
      have HF := Lib.hid (S4.fin (.int .u8 1) (.int .i64 0) (.string TT) (.int .i32 0) H2.out)
      unfold set4 at HF
      clear x0 x1 x2 x3 f0 f1 f2 f3 
      generalize (((w3.setCell ⟨w.heap.size, 0, none⟩ (.int .u8 1)).setCell ⟨w.heap.size, 1, none⟩ (.int .i64 0)).setCell ⟨w.heap.size, 2, none⟩ (.string TT)).setCell ⟨w.heap.size, 3, none⟩ (.int .i32 0) = W5 at *
      obtain ⟨⟨y0, y1, y2, y3⟩, yl⟩ := box4 HF.out.2.2.1
      refine bodyPost_ret (v := .tuple #[.agg #[.int .u8 1, .int .i64 0, .string TT, .int .i32 0], .bool false]) (by simp [results, Tryz.results82, go_sem, y0, y1, y2, y3]) rfl ?_
      exact HE.out _ _ HF.out
set_option maxRecDepth 100000 in
set_option maxHeartbeats 8000000 in
theorem readDecimal_any {b p : Nat} {L r : Bs} {c : UInt8} {w : World} (h : Rd w b L p) (ht : W1.Tab w) (hL : L.length ≤ 256) (hc : L.drop p = c :: r) (h1 : letter c = false) (h2 : digit c = true) : Calls Tryz.prog 84 #[.pointer (some ⟨b, 0, none⟩)] w (RdR (L8.token (c :: r)) L p b w) := by
  obtain ⟨hl, hp⟩ := drop_len hc
  have hw : wordB c = true := by unfold wordB; rw [h2]; simp
  have hwl := wrun_le r
  obtain ⟨t1, t2, t3, t4⟩ := tw_take r hw
  obtain ⟨m, hm⟩ : ∃ m, 1 + wrun r = m := ⟨_, rfl⟩
  have CR : Hid (∀ X, S4 w X b L p #[.int .u8 0, .int .i64 0, .string ⟨#[]⟩, .int .i32 0] → Calls Tryz.prog 106 #[.pointer (some ⟨b, 0, none⟩)] X fun e w' => e = .returned (.string (strOf (c :: r))) ∧ Below X.heap.size X w') := Lib.hid fun X H => by
    have := rest_any H.2.1 hL (by omega)
    rwa [hc] at this
  have CB := Lib.hid (fun (W : World) => wordBytes_any (c :: r) (by unfold maxLen; rw [List.length_cons]; omega) W)
  have CT : Hid (∀ X, S4 w X b L p #[.int .u8 0, .int .i64 0, .string ⟨#[]⟩, .int .i32 0] → Calls Tryz.prog 105 #[.pointer (some ⟨b, 0, none⟩), .int .i64 (m : Int)] X fun e w' => e = .returned (.string (strOf ((c :: r).takeWhile wordB))) ∧ ReadR X w' b L (p + m)) := Lib.hid fun X H => by
    have := take_any (m := m) H.2.1 hL (by omega)
    rwa [hc, ← hm, ← t1, hm] at this
  have hsz := size_strOf ((c :: r).takeWhile wordB)
  rw [t2, hm] at hsz
  have H0 := Lib.hid (S4.new h ht)
  have hm0 : (0 : Int) ≤ (m : Int) := by omega
  have ht1 := token_num (r := r) h1 h2
  rw [← t1, hm] at ht1
  have CD := Lib.hid (fun (W : World) (h : W1.Tab W) => decimal_any ((c :: r).takeWhile wordB) t4 t3 (by unfold maxLen; omega) W h)
  clear h ht hL hc hl hp hwl t1 t2 t3 t4 hm
  generalize (c :: r).takeWhile wordB = T at *
  unfold decO at CD
  generalize value 10 10 2147483648 T = o at *
  cases o with
  | some v =>
    dsimp only at ht1
    have CD2 : Hid (∀ (W : World), W1.Tab W → Calls Tryz.prog 107 #[.string (strOf T)] W fun e w' => e = .returned (.tuple #[.int .i32 (v : Int), .bool true]) ∧ Below W.heap.size W w') := Lib.hid CD.out
    have HE := Lib.hid (fun (W : World) (cs : Array Value) (H : S4 w W b L (p + m) cs) => rdr_some ht1 H)
    clear CD ht1 h1 h2 hw
    generalize strOf T = TT at *
    generalize strOf (c :: r) = S at *
    generalize RdR (L8.token (c :: r)) L p b w = P at *
    go_enter Tryz.func84, Tryz.ntmps84
    go_wp2_with (first
      | (go_at_call 106; (with_reducible refine (CR.out _ H0.out).mono ?_); rintro e w1 ⟨rfl, b1⟩; have H1 := Lib.hid (H0.out.below b1); clear b1)
      | (go_at_call 98; (with_reducible refine (CB.out _).mono ?_); rintro e w2 ⟨rfl, rfl⟩)
      | (go_at_call 105; (with_reducible refine (CT.out _ H1.out).mono ?_); rintro e w3 ⟨rfl, r1⟩; have H2 := Lib.hid (H1.out.read r1); clear r1)
      | (go_at_call 107; (with_reducible refine (CD2.out _ H2.out.tab).mono ?_); rintro e w4 ⟨rfl, b1⟩; have H3 := Lib.hid (H2.out.below b1); clear b1; obtain ⟨⟨x0, x1, x2, x3⟩, xl⟩ := box4 H3.out.2.2.1; obtain ⟨f0, f1, f2, f3⟩ := box4f H3.out.2.2.1))
    have HF := Lib.hid (S4.fin (.int .u8 3) (.int .i64 0) (.string ⟨#[]⟩) (.int .i32 (v : Int)) H3.out)
    unfold set4 at HF
    clear x0 x1 x2 x3 f0 f1 f2 f3 
    generalize (((w4.setCell ⟨w.heap.size, 0, none⟩ (.int .u8 3)).setCell ⟨w.heap.size, 1, none⟩ (.int .i64 0)).setCell ⟨w.heap.size, 2, none⟩ (.string ⟨#[]⟩)).setCell ⟨w.heap.size, 3, none⟩ (.int .i32 (v : Int)) = W5 at *
    obtain ⟨⟨y0, y1, y2, y3⟩, yl⟩ := box4 HF.out.2.2.1
    refine bodyPost_ret (v := .tuple #[.agg #[.int .u8 3, .int .i64 0, .string ⟨#[]⟩, .int .i32 (v : Int)], .bool true]) (by simp [results, Tryz.results84, go_sem, y0, y1, y2, y3]) rfl ?_
    exact HE.out _ _ HF.out
  | none =>
    dsimp only at ht1
    have CD2 : Hid (∀ (W : World), W1.Tab W → Calls Tryz.prog 107 #[.string (strOf T)] W fun e w' => e = .returned (.tuple #[.int .i32 0, .bool false]) ∧ Below W.heap.size W w') := Lib.hid CD.out
    have HE := Lib.hid (fun (W : World) (cs : Array Value) (H : S4 w W b L (p + m) cs) => rdr_none (k := 3) (tx := ⟨#[]⟩) (v := 0) (p := p) ht1 H)
    clear CD ht1 h1 h2 hw
    generalize strOf T = TT at *
    generalize strOf (c :: r) = S at *
    generalize RdR (L8.token (c :: r)) L p b w = P at *
    go_enter Tryz.func84, Tryz.ntmps84
    go_wp2_with (first
      | (go_at_call 106; (with_reducible refine (CR.out _ H0.out).mono ?_); rintro e w1 ⟨rfl, b1⟩; have H1 := Lib.hid (H0.out.below b1); clear b1)
      | (go_at_call 98; (with_reducible refine (CB.out _).mono ?_); rintro e w2 ⟨rfl, rfl⟩)
      | (go_at_call 105; (with_reducible refine (CT.out _ H1.out).mono ?_); rintro e w3 ⟨rfl, r1⟩; have H2 := Lib.hid (H1.out.read r1); clear r1)
      | (go_at_call 107; (with_reducible refine (CD2.out _ H2.out.tab).mono ?_); rintro e w4 ⟨rfl, b1⟩; have H3 := Lib.hid (H2.out.below b1); clear b1; obtain ⟨⟨x0, x1, x2, x3⟩, xl⟩ := box4 H3.out.2.2.1; obtain ⟨f0, f1, f2, f3⟩ := box4f H3.out.2.2.1))
    have HF := Lib.hid (S4.fin (.int .u8 3) (.int .i64 0) (.string ⟨#[]⟩) (.int .i32 0) H3.out)
    unfold set4 at HF
    clear x0 x1 x2 x3 f0 f1 f2 f3 
    generalize (((w4.setCell ⟨w.heap.size, 0, none⟩ (.int .u8 3)).setCell ⟨w.heap.size, 1, none⟩ (.int .i64 0)).setCell ⟨w.heap.size, 2, none⟩ (.string ⟨#[]⟩)).setCell ⟨w.heap.size, 3, none⟩ (.int .i32 0) = W5 at *
    obtain ⟨⟨y0, y1, y2, y3⟩, yl⟩ := box4 HF.out.2.2.1
    refine bodyPost_ret (v := .tuple #[.agg #[.int .u8 3, .int .i64 0, .string ⟨#[]⟩, .int .i32 0], .bool false]) (by simp [results, Tryz.results84, go_sem, y0, y1, y2, y3]) rfl ?_
    exact HE.out _ _ HF.out
theorem tw_len (r : Bs) : (r.takeWhile wordB).length = wrun r := rfl
theorem tw_cut1 (r : Bs) : ((35 :: r).take (1 + wrun r)).drop 1 = r.takeWhile wordB := by
  rw [Nat.add_comm, List.take_succ_cons, List.drop_succ_cons, List.drop_zero]
  exact (List.prefix_iff_eq_take.1 (List.takeWhile_prefix wordB)).symm
theorem tw_take' (r : Bs) : r.takeWhile wordB = r.take (wrun r) := List.prefix_iff_eq_take.1 (List.takeWhile_prefix wordB)
set_option maxRecDepth 100000 in
set_option maxHeartbeats 8000000 in
theorem readHex_any {b p : Nat} {L r : Bs} {w : World} (h : Rd w b L p) (ht : W1.Tab w) (hL : L.length ≤ 256) (hc : L.drop p = 35 :: r) : Calls Tryz.prog 85 #[.pointer (some ⟨b, 0, none⟩)] w (RdR (L8.token (35 :: r)) L p b w) := by
  obtain ⟨hl, hp⟩ := drop_len hc
  have hwl := wrun_le r
  have hd := drop_more hc
  have t1 := tw_take' r
  obtain ⟨m, hm⟩ : ∃ m, wrun r = m := ⟨_, rfl⟩
  have CA : Hid (∀ X, S4 w X b L p #[.int .u8 0, .int .i64 0, .string ⟨#[]⟩, .int .i32 0] → Calls Tryz.prog 105 #[.pointer (some ⟨b, 0, none⟩), .int .i64 1] X fun e w' => e = .returned (.string (strOf ((L.drop p).take 1))) ∧ ReadR X w' b L (p + 1)) := Lib.hid fun X H => take_any (m := 1) H.2.1 hL (by omega)
  have CR : Hid (∀ X, S4 w X b L (p + 1) #[.int .u8 0, .int .i64 0, .string ⟨#[]⟩, .int .i32 0] → Calls Tryz.prog 106 #[.pointer (some ⟨b, 0, none⟩)] X fun e w' => e = .returned (.string (strOf r)) ∧ Below X.heap.size X w') := Lib.hid fun X H => by
    have := rest_any H.2.1 hL (by omega)
    rwa [hd] at this
  have CB := Lib.hid (fun (W : World) => wordBytes_any r (by unfold maxLen; omega) W)
  have CT : Hid (∀ X, S4 w X b L (p + 1) #[.int .u8 0, .int .i64 0, .string ⟨#[]⟩, .int .i32 0] → Calls Tryz.prog 105 #[.pointer (some ⟨b, 0, none⟩), .int .i64 (m : Int)] X fun e w' => e = .returned (.string (strOf (r.takeWhile wordB))) ∧ ReadR X w' b L (p + (1 + m))) := Lib.hid fun X H => by
    have := take_any (m := m) H.2.1 hL (by omega)
    rwa [hd, ← hm, ← t1, hm, Nat.add_assoc] at this
  have hsz := size_strOf (r.takeWhile wordB)
  rw [tw_len, hm] at hsz
  have H0 := Lib.hid (S4.new h ht)
  have hm0 : (0 : Int) ≤ (m : Int) := by omega
  have ht1 := token_hex (r := r)
  rw [tw_cut1, hm] at ht1
  have CD := Lib.hid (fun (W : World) (h : W1.Tab W) => hexadecimal_any (r.takeWhile wordB) (by rw [tw_len]; unfold maxLen; omega) W h)
  clear h ht hL hc hl hp hwl t1 hm hd
  generalize r.takeWhile wordB = T at *
  generalize (L.drop p).take 1 = U at *
  unfold hexO at CD
  generalize value 16 8 4294967296 T = o at *
  cases o with
  | some v =>
    dsimp only at ht1
    have CD2 : Hid (∀ (W : World), W1.Tab W → Calls Tryz.prog 108 #[.string (strOf T)] W fun e w' => e = .returned (.tuple #[.int .i32 (redW (v : Int)), .bool true]) ∧ Below W.heap.size W w') := Lib.hid fun W h => by
      have := CD.out W h
      rw [Option.map_some, Option.getD_some, Option.isSome_some] at this
      exact this
    have HE := Lib.hid (fun (W : World) (cs : Array Value) (H : S4 w W b L (p + (1 + m)) cs) => rdr_some ht1 H)
    clear CD ht1
    generalize redW (v : Int) = V at *
    generalize strOf T = TT at *
    generalize strOf r = S at *
    generalize strOf U = UU at *
    generalize RdR (L8.token (35 :: r)) L p b w = P at *
    go_enter Tryz.func85, Tryz.ntmps85
    go_wp2_with (first
      | (go_at_call 105; (with_reducible refine (CA.out _ H0.out).mono ?_); rintro e wa ⟨rfl, r1⟩; have Ha := Lib.hid (H0.out.read r1); clear r1)
      | (go_at_call 106; (with_reducible refine (CR.out _ Ha.out).mono ?_); rintro e w1 ⟨rfl, b1⟩; have H1 := Lib.hid (Ha.out.below b1); clear b1)
      | (go_at_call 98; (with_reducible refine (CB.out _).mono ?_); rintro e w2 ⟨rfl, rfl⟩)
      | (go_at_call 105; (with_reducible refine (CT.out _ H1.out).mono ?_); rintro e w3 ⟨rfl, r1⟩; have H2 := Lib.hid (H1.out.read r1); clear r1)
      | (go_at_call 108; (with_reducible refine (CD2.out _ H2.out.tab).mono ?_); rintro e w4 ⟨rfl, b1⟩; have H3 := Lib.hid (H2.out.below b1); clear b1; obtain ⟨⟨x0, x1, x2, x3⟩, xl⟩ := box4 H3.out.2.2.1; obtain ⟨f0, f1, f2, f3⟩ := box4f H3.out.2.2.1))
    have HF := Lib.hid (S4.fin (.int .u8 3) (.int .i64 0) (.string ⟨#[]⟩) (.int .i32 V) H3.out)
    unfold set4 at HF
    clear x0 x1 x2 x3 f0 f1 f2 f3 
    generalize (((w4.setCell ⟨w.heap.size, 0, none⟩ (.int .u8 3)).setCell ⟨w.heap.size, 1, none⟩ (.int .i64 0)).setCell ⟨w.heap.size, 2, none⟩ (.string ⟨#[]⟩)).setCell ⟨w.heap.size, 3, none⟩ (.int .i32 V) = W5 at *
    obtain ⟨⟨y0, y1, y2, y3⟩, yl⟩ := box4 HF.out.2.2.1
    refine bodyPost_ret (v := .tuple #[.agg #[.int .u8 3, .int .i64 0, .string ⟨#[]⟩, .int .i32 V], .bool true]) (by simp [results, Tryz.results85, go_sem, y0, y1, y2, y3]) rfl ?_
    exact HE.out _ _ HF.out
  | none =>
    dsimp only at ht1
    have CD2 : Hid (∀ (W : World), W1.Tab W → Calls Tryz.prog 108 #[.string (strOf T)] W fun e w' => e = .returned (.tuple #[.int .i32 0, .bool false]) ∧ Below W.heap.size W w') := Lib.hid CD.out
    have HE := Lib.hid (fun (W : World) (cs : Array Value) (H : S4 w W b L (p + (1 + m)) cs) => rdr_none (k := 3) (tx := ⟨#[]⟩) (v := 0) (p := p) ht1 H)
    clear CD ht1
    generalize strOf T = TT at *
    generalize strOf r = S at *
    generalize strOf U = UU at *
    generalize RdR (L8.token (35 :: r)) L p b w = P at *
    go_enter Tryz.func85, Tryz.ntmps85
    go_wp2_with (first
      | (go_at_call 105; (with_reducible refine (CA.out _ H0.out).mono ?_); rintro e wa ⟨rfl, r1⟩; have Ha := Lib.hid (H0.out.read r1); clear r1)
      | (go_at_call 106; (with_reducible refine (CR.out _ Ha.out).mono ?_); rintro e w1 ⟨rfl, b1⟩; have H1 := Lib.hid (Ha.out.below b1); clear b1)
      | (go_at_call 98; (with_reducible refine (CB.out _).mono ?_); rintro e w2 ⟨rfl, rfl⟩)
      | (go_at_call 105; (with_reducible refine (CT.out _ H1.out).mono ?_); rintro e w3 ⟨rfl, r1⟩; have H2 := Lib.hid (H1.out.read r1); clear r1)
      | (go_at_call 108; (with_reducible refine (CD2.out _ H2.out.tab).mono ?_); rintro e w4 ⟨rfl, b1⟩; have H3 := Lib.hid (H2.out.below b1); clear b1; obtain ⟨⟨x0, x1, x2, x3⟩, xl⟩ := box4 H3.out.2.2.1; obtain ⟨f0, f1, f2, f3⟩ := box4f H3.out.2.2.1))
    have HF := Lib.hid (S4.fin (.int .u8 3) (.int .i64 0) (.string ⟨#[]⟩) (.int .i32 0) H3.out)
    unfold set4 at HF
    clear x0 x1 x2 x3 f0 f1 f2 f3 
    generalize (((w4.setCell ⟨w.heap.size, 0, none⟩ (.int .u8 3)).setCell ⟨w.heap.size, 1, none⟩ (.int .i64 0)).setCell ⟨w.heap.size, 2, none⟩ (.string ⟨#[]⟩)).setCell ⟨w.heap.size, 3, none⟩ (.int .i32 0) = W5 at *
    obtain ⟨⟨y0, y1, y2, y3⟩, yl⟩ := box4 HF.out.2.2.1
    refine bodyPost_ret (v := .tuple #[.agg #[.int .u8 3, .int .i64 0, .string ⟨#[]⟩, .int .i32 0], .bool false]) (by simp [results, Tryz.results85, go_sem, y0, y1, y2, y3]) rfl ?_
    exact HE.out _ _ HF.out
end Go.Proofs.YtplcmcealeeppaaGreatDoor
/- The program's readers of characters and symbols. -/
set_option linter.unusedVariables false
set_option linter.unusedSimpArgs false
namespace Go.Proofs.YtplcmcealeeppaaGreatDoor
open Go Go.RowKit L8

theorem charP_le : ∀ s : Bs, (charP s).2 ≤ s.length ∧ (charP s).1 < 256 := by
  intro s
  cases s with
  | nil => exact ⟨Nat.zero_le _, by decide⟩
  | cons c r =>
    unfold charP
    dsimp only
    by_cases h : ¬ (32 ≤ c.toNat ∧ c.toNat ≤ 126) ∨ c = 39
    · rw [if_pos h]; exact ⟨Nat.zero_le _, by decide⟩
    · rw [if_neg h]
      by_cases h2 : c = 42
      · rw [if_pos h2]
        rcases escH_ways (c :: r) with ⟨_, he⟩ | ⟨_, _, he⟩ | ⟨x, y, _, h4, _, ⟨v, hv, he, _⟩ | ⟨he, _⟩⟩
        · rw [escP_s he]
          rcases escS_ways (c :: r) with ⟨_, hE⟩ | ⟨_, _, hE⟩ | ⟨i, hi, h3, _, hE⟩
          · rw [hE]; exact ⟨Nat.zero_le _, by decide⟩
          · rw [hE]; exact ⟨Nat.zero_le _, by decide⟩
          · rw [hE]; exact ⟨h3, escd_lt i⟩
        · rw [escP_s he]
          rcases escS_ways (c :: r) with ⟨_, hE⟩ | ⟨_, _, hE⟩ | ⟨i, hi, h3, _, hE⟩
          · rw [hE]; exact ⟨Nat.zero_le _, by decide⟩
          · rw [hE]; exact ⟨Nat.zero_le _, by decide⟩
          · rw [hE]; exact ⟨h3, escd_lt i⟩
        · rw [escP_h he]; exact ⟨h4, hv⟩
        · rw [escP_s he]
          rcases escS_ways (c :: r) with ⟨_, hE⟩ | ⟨_, _, hE⟩ | ⟨i, hi, h3, _, hE⟩
          · rw [hE]; exact ⟨Nat.zero_le _, by decide⟩
          · rw [hE]; exact ⟨Nat.zero_le _, by decide⟩
          · rw [hE]; exact ⟨h3, escd_lt i⟩
      · rw [if_neg h2]; exact ⟨by simp, c.toNat_lt⟩
abbrev zt : Array Value := #[.int .u8 0, .int .i64 0, .string ⟨#[]⟩, .int .i32 0]
/-! ### Characters -/
set_option maxRecDepth 100000 in
set_option maxHeartbeats 8000000 in
theorem readCharacter_any {b p : Nat} {L r : Bs} {w : World} (h : Rd w b L p) (ht : W1.Tab w) (hL : L.length ≤ 256) (hc : L.drop p = 39 :: r) : Calls Tryz.prog 86 #[.pointer (some ⟨b, 0, none⟩)] w (RdR (L8.token (39 :: r)) L p b w) := by
  obtain ⟨hl, hp⟩ := drop_len hc
  have hd := drop_more hc
  have ht1 := token_quo (r := r)
  rw [charP_quoted] at ht1
  obtain ⟨hcl, hcv⟩ := charP_le r
  have CC : Hid (∀ (W : World), W1.Tab W → Calls Tryz.prog 109 #[.string (strOf r)] W fun e w' => e = .returned (.tuple #[.int .i32 ((charP r).1 : Int), .int .i64 ((charP r).2 : Int)]) ∧ Below W.heap.size W w') := Lib.hid fun W h => character_any r (by unfold maxLen; omega) W h
  generalize hvv : (charP r).1 = v at *
  generalize hmm : (charP r).2 = m at *
  have e0 : charP r = (v, m) := by rw [← hvv, ← hmm]
  rw [e0] at ht1
  clear hvv hmm e0
  have CA : Hid (∀ X, S4 w X b L p #[.int .u8 0, .int .i64 0, .string ⟨#[]⟩, .int .i32 0] → Calls Tryz.prog 105 #[.pointer (some ⟨b, 0, none⟩), .int .i64 1] X fun e w' => e = .returned (.string (strOf ((L.drop p).take 1))) ∧ ReadR X w' b L (p + 1)) := Lib.hid fun X H => take_any (m := 1) H.2.1 hL (by omega)
  have CR : Hid (∀ X, S4 w X b L (p + 1) #[.int .u8 0, .int .i64 0, .string ⟨#[]⟩, .int .i32 0] → Calls Tryz.prog 106 #[.pointer (some ⟨b, 0, none⟩)] X fun e w' => e = .returned (.string (strOf r)) ∧ Below X.heap.size X w') := Lib.hid fun X H => by
    have := rest_any H.2.1 hL (by omega)
    rwa [hd] at this
  have CT : Hid (∀ X, S4 w X b L (p + 1) #[.int .u8 0, .int .i64 0, .string ⟨#[]⟩, .int .i32 0] → Calls Tryz.prog 105 #[.pointer (some ⟨b, 0, none⟩), .int .i64 (m : Int)] X fun e w' => e = .returned (.string (strOf (r.take m))) ∧ ReadR X w' b L (p + 1 + m)) := Lib.hid fun X H => by
    have := take_any (m := m) H.2.1 hL (by omega)
    rwa [hd] at this
  have hd2 : L.drop (p + 1 + m) = r.drop m := by rw [← List.drop_drop, hd]
  have CS : Hid (∀ X, S4 w X b L (p + 1 + m) #[.int .u8 0, .int .i64 0, .string ⟨#[]⟩, .int .i32 0] → Calls Tryz.prog 106 #[.pointer (some ⟨b, 0, none⟩)] X fun e w' => e = .returned (.string (strOf (r.drop m))) ∧ Below X.heap.size X w') := Lib.hid fun X H => by
    have := rest_any H.2.1 hL (by omega)
    rwa [hd2] at this
  have CP : Hid (∀ W : World, Calls Tryz.prog 110 #[.string (strOf (r.drop m)), .string ⟨#[39]⟩] W fun e w' => e = .returned (.bool (decide ((r.drop m).head? = some 39))) ∧ W = w') := Lib.hid fun W => (cHasPrefix (r.drop m) [39] W).mono fun e w' h => ⟨by have := h.1; rw [pre_one] at this; exact this, h.2⟩
  have CQ : Hid ((r.drop m).head? = some 39 → ∀ X, S4 w X b L (p + 1 + m) #[.int .u8 0, .int .i64 0, .string ⟨#[]⟩, .int .i32 0] → Calls Tryz.prog 105 #[.pointer (some ⟨b, 0, none⟩), .int .i64 1] X fun e w' => e = .returned (.string (strOf ((L.drop (p + 1 + m)).take 1))) ∧ ReadR X w' b L (p + (m + 2))) := Lib.hid fun hh X H => by
    have hlt := ((drop_head r m).1 hh).1
    have := take_any (m := 1) H.2.1 hL (by omega)
    rwa [show p + 1 + m + 1 = p + (m + 2) by omega] at this
  have H0 := Lib.hid (S4.new h ht)
  have hm0 : (0 : Int) ≤ (m : Int) := by omega
  have hm1 : (m : Int) ≤ 256 := by omega
  have hv0 : (0 : Int) ≤ (v : Int) := by omega
  have hv1 : (v : Int) < 256 := by omega
  clear h ht hL hc hl hp hcl hd hcv
  generalize (L.drop p).take 1 = U at *
  generalize (L.drop (p + 1 + m)).take 1 = U2 at *
  generalize r.take m = T at *
  unfold lit at ht1
  dsimp only at ht1
  by_cases hz : m = 0
  · rw [if_neg (fun k => k.1 hz)] at ht1
    dsimp only at ht1
    have q0 : ((m : Int) == 0) = true := by rw [hz]; rfl
    have HE := Lib.hid (fun (W : World) (cs : Array Value) (H : S4 w W b L (p + 1 + m) cs) => rdr_none (k := 0) (tx := ⟨#[]⟩) (v := 0) (p := p) ht1 H)
    clear ht1 CQ CS CP hd2 hz
    generalize RdR (L8.token (39 :: r)) L p b w = P at *
    generalize strOf r = S at *
    generalize strOf U = UU at *
    generalize strOf T = TT at *
    go_enter Tryz.func86, Tryz.ntmps86
    go_wp2_with (first
      | (go_at_call 105; (with_reducible refine (CA.out _ H0.out).mono ?_); rintro e wa ⟨rfl, r1⟩; have Ha := Lib.hid (H0.out.read r1); clear r1)
      | (go_at_call 106; (with_reducible refine (CR.out _ Ha.out).mono ?_); rintro e w1 ⟨rfl, b1⟩; have H1 := Lib.hid (Ha.out.below b1); clear b1)
      | (go_at_call 109; (with_reducible refine (CC.out _ H1.out.tab).mono ?_); rintro e w2 ⟨rfl, b1⟩; have H2 := Lib.hid (H1.out.below b1); clear b1)
      | (go_at_call 105; (with_reducible refine (CT.out _ H2.out).mono ?_); rintro e w3 ⟨rfl, r1⟩; have H3 := Lib.hid (H2.out.read r1); clear r1; obtain ⟨⟨x0, x1, x2, x3⟩, xl⟩ := box4 H3.out.2.2.1; obtain ⟨f0, f1, f2, f3⟩ := box4f H3.out.2.2.1))
    have HF := Lib.hid (S4.fin (.int .u8 0) (.int .i64 0) (.string ⟨#[]⟩) (.int .i32 0) H3.out)
    unfold set4 at HF
    clear x0 x1 x2 x3 f0 f1 f2 f3 
    generalize (((w3.setCell ⟨w.heap.size, 0, none⟩ (.int .u8 0)).setCell ⟨w.heap.size, 1, none⟩ (.int .i64 0)).setCell ⟨w.heap.size, 2, none⟩ (.string ⟨#[]⟩)).setCell ⟨w.heap.size, 3, none⟩ (.int .i32 0) = W5 at *
    obtain ⟨⟨y0, y1, y2, y3⟩, yl⟩ := box4 HF.out.2.2.1
    refine bodyPost_ret (v := .tuple #[.agg #[.int .u8 0, .int .i64 0, .string ⟨#[]⟩, .int .i32 0], .bool false]) (by simp [results, Tryz.results86, go_sem, y0, y1, y2, y3]) rfl ?_
    exact HE.out _ _ HF.out
  · have q0 : ((m : Int) == 0) = false := by simp [hz]
    by_cases hh : (r.drop m).head? = some 39
    · rw [if_pos ⟨hz, hh⟩] at ht1
      dsimp only at ht1
      rw [decide_eq_true hh] at CP
      have CQ2 := Lib.hid (CQ.out hh)
      have HE := Lib.hid (fun (W : World) (cs : Array Value) (H : S4 w W b L (p + (m + 2)) cs) => rdr_some ht1 H)
      clear ht1 CQ hh hd2 hz
      generalize RdR (L8.token (39 :: r)) L p b w = P at *
      generalize strOf (r.drop m) = SD at *
      generalize strOf r = S at *
      generalize strOf U = UU at *
      generalize strOf U2 = UU2 at *
      generalize strOf T = TT at *
      go_enter Tryz.func86, Tryz.ntmps86
      go_wp2_with (first
        | (go_at_call 105; (with_reducible refine (CA.out _ H0.out).mono ?_); rintro e wa ⟨rfl, r1⟩; have Ha := Lib.hid (H0.out.read r1); clear r1 CA)
        | (go_at_call 106; (with_reducible refine (CR.out _ Ha.out).mono ?_); rintro e w1 ⟨rfl, b1⟩; have H1 := Lib.hid (Ha.out.below b1); clear b1 CR)
        | (go_at_call 109; (with_reducible refine (CC.out _ H1.out.tab).mono ?_); rintro e w2 ⟨rfl, b1⟩; have H2 := Lib.hid (H1.out.below b1); clear b1)
        | (go_at_call 105; (with_reducible refine (CT.out _ H2.out).mono ?_); rintro e w3 ⟨rfl, r1⟩; have H3 := Lib.hid (H2.out.read r1); clear r1)
        | (go_at_call 106; (with_reducible refine (CS.out _ H3.out).mono ?_); rintro e w4 ⟨rfl, b1⟩; have H4 := Lib.hid (H3.out.below b1); clear b1)
        | (go_at_call 110; (with_reducible refine (CP.out _).mono ?_); rintro e w5 ⟨rfl, rfl⟩)
        | (go_at_call 105; (with_reducible refine (CQ2.out _ H4.out).mono ?_); rintro e w6 ⟨rfl, r1⟩; have H5 := Lib.hid (H4.out.read r1); clear r1; obtain ⟨⟨x0, x1, x2, x3⟩, xl⟩ := box4 H5.out.2.2.1; obtain ⟨f0, f1, f2, f3⟩ := box4f H5.out.2.2.1))
      have HF := Lib.hid (S4.fin (.int .u8 4) (.int .i64 0) (.string ⟨#[]⟩) (.int .i32 (v : Int)) H5.out)
      unfold set4 at HF
      clear x0 x1 x2 x3 f0 f1 f2 f3 
      generalize (((w6.setCell ⟨w.heap.size, 0, none⟩ (.int .u8 4)).setCell ⟨w.heap.size, 1, none⟩ (.int .i64 0)).setCell ⟨w.heap.size, 2, none⟩ (.string ⟨#[]⟩)).setCell ⟨w.heap.size, 3, none⟩ (.int .i32 (v : Int)) = W5 at *
      obtain ⟨⟨y0, y1, y2, y3⟩, yl⟩ := box4 HF.out.2.2.1
      refine bodyPost_ret (v := .tuple #[.agg #[.int .u8 4, .int .i64 0, .string ⟨#[]⟩, .int .i32 (v : Int)], .bool true]) (by simp [results, Tryz.results86, go_sem, y0, y1, y2, y3]) rfl ?_
      exact HE.out _ _ HF.out
    · rw [if_neg (fun k => hh k.2)] at ht1
      dsimp only at ht1
      rw [decide_eq_false hh] at CP
      have HE := Lib.hid (fun (W : World) (cs : Array Value) (H : S4 w W b L (p + 1 + m) cs) => rdr_none (k := 0) (tx := ⟨#[]⟩) (v := 0) (p := p) ht1 H)
      clear ht1 CQ hh hd2 hz
      generalize RdR (L8.token (39 :: r)) L p b w = P at *
      generalize strOf (r.drop m) = SD at *
      generalize strOf r = S at *
      generalize strOf U = UU at *
      generalize strOf T = TT at *
      go_enter Tryz.func86, Tryz.ntmps86
      go_wp2_with (first
        | (go_at_call 105; (with_reducible refine (CA.out _ H0.out).mono ?_); rintro e wa ⟨rfl, r1⟩; have Ha := Lib.hid (H0.out.read r1); clear r1 CA)
        | (go_at_call 106; (with_reducible refine (CR.out _ Ha.out).mono ?_); rintro e w1 ⟨rfl, b1⟩; have H1 := Lib.hid (Ha.out.below b1); clear b1 CR)
        | (go_at_call 109; (with_reducible refine (CC.out _ H1.out.tab).mono ?_); rintro e w2 ⟨rfl, b1⟩; have H2 := Lib.hid (H1.out.below b1); clear b1)
        | (go_at_call 105; (with_reducible refine (CT.out _ H2.out).mono ?_); rintro e w3 ⟨rfl, r1⟩; have H3 := Lib.hid (H2.out.read r1); clear r1)
        | (go_at_call 106; (with_reducible refine (CS.out _ H3.out).mono ?_); rintro e w4 ⟨rfl, b1⟩; have H4 := Lib.hid (H3.out.below b1); clear b1)
        | (go_at_call 110; (with_reducible refine (CP.out _).mono ?_); rintro e w5 ⟨rfl, rfl⟩; obtain ⟨⟨x0, x1, x2, x3⟩, xl⟩ := box4 H4.out.2.2.1; obtain ⟨f0, f1, f2, f3⟩ := box4f H4.out.2.2.1))
      have HF := Lib.hid (S4.fin (.int .u8 0) (.int .i64 0) (.string ⟨#[]⟩) (.int .i32 0) H4.out)
      unfold set4 at HF
      clear x0 x1 x2 x3 f0 f1 f2 f3 
      generalize (((w4.setCell ⟨w.heap.size, 0, none⟩ (.int .u8 0)).setCell ⟨w.heap.size, 1, none⟩ (.int .i64 0)).setCell ⟨w.heap.size, 2, none⟩ (.string ⟨#[]⟩)).setCell ⟨w.heap.size, 3, none⟩ (.int .i32 0) = W5 at *
      obtain ⟨⟨y0, y1, y2, y3⟩, yl⟩ := box4 HF.out.2.2.1
      refine bodyPost_ret (v := .tuple #[.agg #[.int .u8 0, .int .i64 0, .string ⟨#[]⟩, .int .i32 0], .bool false]) (by simp [results, Tryz.results86, go_sem, y0, y1, y2, y3]) rfl ?_
      exact HE.out _ _ HF.out
/-! ### Symbols -/
set_option maxRecDepth 100000 in
set_option maxHeartbeats 8000000 in
theorem readSymbol_any {b p : Nat} {L r : Bs} {c : UInt8} {w : World} (h : Rd w b L p) (ht : W1.Tab w) (hL : L.length ≤ 256) (hc : L.drop p = c :: r) (h1 : letter c = false) (h2 : digit c = false) (h3 : c ≠ 35) (h4 : c ≠ 39) : Calls Tryz.prog 87 #[.pointer (some ⟨b, 0, none⟩)] w (RdR (L8.token (c :: r)) L p b w) := by
  obtain ⟨hl, hp⟩ := drop_len hc
  have ht1 := token_sym (r := r) h1 h2 h3 h4
  have CR : Hid (∀ X, S4 w X b L p #[.int .u8 0, .int .i64 0, .string ⟨#[]⟩, .int .i32 0] → Calls Tryz.prog 106 #[.pointer (some ⟨b, 0, none⟩)] X fun e w' => e = .returned (.string (strOf (c :: r))) ∧ Below X.heap.size X w') := Lib.hid fun X H => by
    have := rest_any H.2.1 hL (by omega)
    rwa [hc] at this
  have CT : Hid (∀ m, m ≤ (c :: r).length → ∀ X, S4 w X b L p #[.int .u8 0, .int .i64 0, .string ⟨#[]⟩, .int .i32 0] → Calls Tryz.prog 105 #[.pointer (some ⟨b, 0, none⟩), .int .i64 (m : Int)] X fun e w' => e = .returned (.string (strOf ((c :: r).take m))) ∧ ReadR X w' b L (p + m)) := Lib.hid fun m hm X H => by
    have := take_any (m := m) H.2.1 hL (by rw [List.length_cons] at hm; omega)
    rwa [hc] at this
  have hsz := size_strOf (c :: r)
  have H0 := Lib.hid (S4.new h ht)
  have HC := Lib.hid (fun (k : Nat) (hk : k ≤ (c :: r).length) => cut_to (c :: r) k hk)
  have CS := Lib.hid (fun (s : Bs) (W : World) => isSymbol_any s W)
  have e1 : (c :: r).take 1 = [c] := rfl
  obtain ⟨n, hn⟩ : ∃ n, (c :: r).length = n := ⟨_, rfl⟩
  have hn1 : 1 ≤ n := by rw [← hn]; simp
  have hn2 : n ≤ 256 := by rw [← hn, List.length_cons]; omega
  rw [hn] at CT HC hsz ht1
  clear h ht hL hc hl hp h1 h2 h3 h4 hn
  have hn0 : (0 : Int) ≤ (n : Int) := by omega
  have CT1 : Hid (∀ X, S4 w X b L p #[.int .u8 0, .int .i64 0, .string ⟨#[]⟩, .int .i32 0] → Calls Tryz.prog 105 #[.pointer (some ⟨b, 0, none⟩), .int .i64 1] X fun e w' => e = .returned (.string (strOf [c])) ∧ ReadR X w' b L (p + 1)) := Lib.hid (CT.out 1 hn1)
  have CC1 : Hid (∀ W : World, Calls Tryz.prog 75 #[.string (strOf [c])] W fun e w' => e = .returned (.bool (isSym [c])) ∧ W = w') := Lib.hid fun W => CS.out [c] W
  by_cases h1n : n = 1
  · have hmin : min (2 : Int) (n : Int) = 1 := by omega
    rw [if_neg (by omega)] at ht1
    have hc1 : ∀ W : World, (Instr.slice 9 (.string (strOf (c :: r))) none (some (.int .i64 1)) none).run Tryz.prog W = .ok (.string (strOf [c])) W := HC.out 1 hn1
    clear CT HC CS e1 h1n
    cases hs : isSym [c] with
    | true =>
      rw [hs] at ht1 CC1
      rw [if_pos rfl] at ht1
      have HE := Lib.hid (fun (W : World) (cs : Array Value) (H : S4 w W b L (p + 1) cs) => rdr_some ht1 H)
      clear ht1 hs
      generalize strOf [c] = CCs at *
      generalize strOf (c :: r) = S at *
      generalize RdR (L8.token (c :: r)) L p b w = P at *
      go_enter Tryz.func87, Tryz.ntmps87
      go_wp2_with (first
        | (go_at_call 106; (with_reducible refine (CR.out _ H0.out).mono ?_); rintro e w1 ⟨rfl, b1⟩; have H1 := Lib.hid (H0.out.below b1); clear b1 H0)
        | (go_at_call 106; (with_reducible refine (CR.out _ H1.out).mono ?_); rintro e w2 ⟨rfl, b1⟩; have H2 := Lib.hid (H1.out.below b1); clear b1 H1)
        | (go_at_call 105; (with_reducible refine (CT1.out _ H2.out).mono ?_); rintro e w3 ⟨rfl, r1⟩; have H3 := Lib.hid (H2.out.read r1); clear r1; obtain ⟨⟨x0, x1, x2, x3⟩, xl⟩ := box4 H3.out.2.2.1; obtain ⟨f0, f1, f2, f3⟩ := box4f H3.out.2.2.1)
        | (go_at_call 75; (with_reducible refine (CC1.out _).mono ?_); rintro e w5 ⟨rfl, rfl⟩))
      have HF := Lib.hid (S4.fin (.int .u8 5) (.int .i64 0) (.string CCs) (.int .i32 0) H3.out)
      unfold set4 at HF
      clear x0 x1 x2 x3 f0 f1 f2 f3 
      generalize (((w3.setCell ⟨w.heap.size, 0, none⟩ (.int .u8 5)).setCell ⟨w.heap.size, 1, none⟩ (.int .i64 0)).setCell ⟨w.heap.size, 2, none⟩ (.string CCs)).setCell ⟨w.heap.size, 3, none⟩ (.int .i32 0) = W5 at *
      obtain ⟨⟨y0, y1, y2, y3⟩, yl⟩ := box4 HF.out.2.2.1
      refine bodyPost_ret (v := .tuple #[.agg #[.int .u8 5, .int .i64 0, .string CCs, .int .i32 0], .bool true]) (by simp [results, Tryz.results87, go_sem, y0, y1, y2, y3]) rfl ?_
      exact HE.out _ _ HF.out
    | false =>
      rw [hs] at ht1 CC1
      rw [if_neg (by decide)] at ht1
      have HE := Lib.hid (fun (W : World) (cs : Array Value) (H : S4 w W b L (p + 1) cs) => rdr_none (k := 5) (tx := strOf [c]) (v := 0) (p := p) ht1 H)
      clear ht1 hs
      generalize strOf [c] = CCs at *
      generalize strOf (c :: r) = S at *
      generalize RdR (L8.token (c :: r)) L p b w = P at *
      go_enter Tryz.func87, Tryz.ntmps87
      go_wp2_with (first
        | (go_at_call 106; (with_reducible refine (CR.out _ H0.out).mono ?_); rintro e w1 ⟨rfl, b1⟩; have H1 := Lib.hid (H0.out.below b1); clear b1 H0)
        | (go_at_call 106; (with_reducible refine (CR.out _ H1.out).mono ?_); rintro e w2 ⟨rfl, b1⟩; have H2 := Lib.hid (H1.out.below b1); clear b1 H1)
        | (go_at_call 105; (with_reducible refine (CT1.out _ H2.out).mono ?_); rintro e w3 ⟨rfl, r1⟩; have H3 := Lib.hid (H2.out.read r1); clear r1; obtain ⟨⟨x0, x1, x2, x3⟩, xl⟩ := box4 H3.out.2.2.1; obtain ⟨f0, f1, f2, f3⟩ := box4f H3.out.2.2.1)
        | (go_at_call 75; (with_reducible refine (CC1.out _).mono ?_); rintro e w5 ⟨rfl, rfl⟩))
      have HF := Lib.hid (S4.fin (.int .u8 5) (.int .i64 0) (.string CCs) (.int .i32 0) H3.out)
      unfold set4 at HF
      clear x0 x1 x2 x3 f0 f1 f2 f3 
      generalize (((w3.setCell ⟨w.heap.size, 0, none⟩ (.int .u8 5)).setCell ⟨w.heap.size, 1, none⟩ (.int .i64 0)).setCell ⟨w.heap.size, 2, none⟩ (.string CCs)).setCell ⟨w.heap.size, 3, none⟩ (.int .i32 0) = W5 at *
      obtain ⟨⟨y0, y1, y2, y3⟩, yl⟩ := box4 HF.out.2.2.1
      refine bodyPost_ret (v := .tuple #[.agg #[.int .u8 5, .int .i64 0, .string CCs, .int .i32 0], .bool false]) (by simp [results, Tryz.results87, go_sem, y0, y1, y2, y3]) rfl ?_
      exact HE.out _ _ HF.out
  · have hmin : min (2 : Int) (n : Int) = 2 := by omega
    have hc1 : ∀ W : World, (Instr.slice 9 (.string (strOf (c :: r))) none (some (.int .i64 2)) none).run Tryz.prog W = .ok (.string (strOf ((c :: r).take 2))) W := HC.out 2 (by omega)
    have CT2 : Hid (∀ X, S4 w X b L p #[.int .u8 0, .int .i64 0, .string ⟨#[]⟩, .int .i32 0] → Calls Tryz.prog 105 #[.pointer (some ⟨b, 0, none⟩), .int .i64 2] X fun e w' => e = .returned (.string (strOf ((c :: r).take 2))) ∧ ReadR X w' b L (p + 2)) := Lib.hid (CT.out 2 (by omega))
    have CC2 : Hid (∀ W : World, Calls Tryz.prog 75 #[.string (strOf ((c :: r).take 2))] W fun e w' => e = .returned (.bool (isSym ((c :: r).take 2))) ∧ W = w') := Lib.hid fun W => CS.out _ W
    have q2 : (2 : Int) ≤ (n : Int) := by omega
    clear CT HC CS e1
    generalize hT : (c :: r).take 2 = T at *
    clear hT
    cases hs2 : isSym T with
    | true =>
      rw [hs2] at ht1 CC2
      rw [if_pos ⟨by omega, rfl⟩] at ht1
      have HE := Lib.hid (fun (W : World) (cs : Array Value) (H : S4 w W b L (p + 2) cs) => rdr_some ht1 H)
      clear ht1 hs2 CC1 CT1 h1n
      generalize strOf T = TT at *
      generalize strOf (c :: r) = S at *
      generalize RdR (L8.token (c :: r)) L p b w = P at *
      go_enter Tryz.func87, Tryz.ntmps87
      go_wp2_with (first
        | (go_at_call 106; (with_reducible refine (CR.out _ H0.out).mono ?_); rintro e w1 ⟨rfl, b1⟩; have H1 := Lib.hid (H0.out.below b1); clear b1 H0)
        | (go_at_call 106; (with_reducible refine (CR.out _ H1.out).mono ?_); rintro e w2 ⟨rfl, b1⟩; have H2 := Lib.hid (H1.out.below b1); clear b1 H1)
        | (go_at_call 105; (with_reducible refine (CT2.out _ H2.out).mono ?_); rintro e w3 ⟨rfl, r1⟩; have H3 := Lib.hid (H2.out.read r1); clear r1; obtain ⟨⟨x0, x1, x2, x3⟩, xl⟩ := box4 H3.out.2.2.1; obtain ⟨f0, f1, f2, f3⟩ := box4f H3.out.2.2.1)
        | (go_at_call 75; (with_reducible refine (CC2.out _).mono ?_); rintro e w5 ⟨rfl, rfl⟩))
      have HF := Lib.hid (S4.fin (.int .u8 5) (.int .i64 0) (.string TT) (.int .i32 0) H3.out)
      unfold set4 at HF
      clear x0 x1 x2 x3 f0 f1 f2 f3 
      generalize (((w3.setCell ⟨w.heap.size, 0, none⟩ (.int .u8 5)).setCell ⟨w.heap.size, 1, none⟩ (.int .i64 0)).setCell ⟨w.heap.size, 2, none⟩ (.string TT)).setCell ⟨w.heap.size, 3, none⟩ (.int .i32 0) = W5 at *
      obtain ⟨⟨y0, y1, y2, y3⟩, yl⟩ := box4 HF.out.2.2.1
      refine bodyPost_ret (v := .tuple #[.agg #[.int .u8 5, .int .i64 0, .string TT, .int .i32 0], .bool true]) (by simp [results, Tryz.results87, go_sem, y0, y1, y2, y3]) rfl ?_
      exact HE.out _ _ HF.out
    | false =>
      rw [hs2] at ht1 CC2
      rw [if_neg (fun k => absurd k.2 (by decide))] at ht1
      clear CT2 hs2 h1n
      cases hs : isSym [c] with
      | true =>
        rw [hs] at ht1 CC1
        rw [if_pos rfl] at ht1
        have HE := Lib.hid (fun (W : World) (cs : Array Value) (H : S4 w W b L (p + 1) cs) => rdr_some ht1 H)
        clear ht1 hs
        generalize strOf [c] = CCs at *
        generalize strOf T = TT at *
        generalize strOf (c :: r) = S at *
        generalize RdR (L8.token (c :: r)) L p b w = P at *
        go_enter Tryz.func87, Tryz.ntmps87
        go_wp2_with (first
          | (go_at_call 106; (with_reducible refine (CR.out _ H0.out).mono ?_); rintro e w1 ⟨rfl, b1⟩; have H1 := Lib.hid (H0.out.below b1); clear b1 H0)
          | (go_at_call 106; (with_reducible refine (CR.out _ H1.out).mono ?_); rintro e w2 ⟨rfl, b1⟩; have H2 := Lib.hid (H1.out.below b1); clear b1 H1)
          | (go_at_call 105; (with_reducible refine (CT1.out _ H2.out).mono ?_); rintro e w3 ⟨rfl, r1⟩; have H3 := Lib.hid (H2.out.read r1); clear r1; obtain ⟨⟨x0, x1, x2, x3⟩, xl⟩ := box4 H3.out.2.2.1; obtain ⟨f0, f1, f2, f3⟩ := box4f H3.out.2.2.1)
          | (go_at_call 75; (with_reducible refine (CC2.out _).mono ?_); rintro e w5 ⟨rfl, rfl⟩)
          | (go_at_call 75; (with_reducible refine (CC1.out _).mono ?_); rintro e w5 ⟨rfl, rfl⟩))
        have HF := Lib.hid (S4.fin (.int .u8 5) (.int .i64 0) (.string CCs) (.int .i32 0) H3.out)
        unfold set4 at HF
        clear x0 x1 x2 x3 f0 f1 f2 f3 
        generalize (((w3.setCell ⟨w.heap.size, 0, none⟩ (.int .u8 5)).setCell ⟨w.heap.size, 1, none⟩ (.int .i64 0)).setCell ⟨w.heap.size, 2, none⟩ (.string CCs)).setCell ⟨w.heap.size, 3, none⟩ (.int .i32 0) = W5 at *
        obtain ⟨⟨y0, y1, y2, y3⟩, yl⟩ := box4 HF.out.2.2.1
        refine bodyPost_ret (v := .tuple #[.agg #[.int .u8 5, .int .i64 0, .string CCs, .int .i32 0], .bool true]) (by simp [results, Tryz.results87, go_sem, y0, y1, y2, y3]) rfl ?_
        exact HE.out _ _ HF.out
      | false =>
        rw [hs] at ht1 CC1
        rw [if_neg (by decide)] at ht1
        have HE := Lib.hid (fun (W : World) (cs : Array Value) (H : S4 w W b L (p + 1) cs) => rdr_none (k := 5) (tx := strOf [c]) (v := 0) (p := p) ht1 H)
        clear ht1 hs
        generalize strOf [c] = CCs at *
        generalize strOf T = TT at *
        generalize strOf (c :: r) = S at *
        generalize RdR (L8.token (c :: r)) L p b w = P at *
        go_enter Tryz.func87, Tryz.ntmps87
        go_wp2_with (first
          | (go_at_call 106; (with_reducible refine (CR.out _ H0.out).mono ?_); rintro e w1 ⟨rfl, b1⟩; have H1 := Lib.hid (H0.out.below b1); clear b1 H0)
          | (go_at_call 106; (with_reducible refine (CR.out _ H1.out).mono ?_); rintro e w2 ⟨rfl, b1⟩; have H2 := Lib.hid (H1.out.below b1); clear b1 H1)
          | (go_at_call 105; (with_reducible refine (CT1.out _ H2.out).mono ?_); rintro e w3 ⟨rfl, r1⟩; have H3 := Lib.hid (H2.out.read r1); clear r1; obtain ⟨⟨x0, x1, x2, x3⟩, xl⟩ := box4 H3.out.2.2.1; obtain ⟨f0, f1, f2, f3⟩ := box4f H3.out.2.2.1)
          | (go_at_call 75; (with_reducible refine (CC2.out _).mono ?_); rintro e w5 ⟨rfl, rfl⟩)
          | (go_at_call 75; (with_reducible refine (CC1.out _).mono ?_); rintro e w5 ⟨rfl, rfl⟩))
        have HF := Lib.hid (S4.fin (.int .u8 5) (.int .i64 0) (.string CCs) (.int .i32 0) H3.out)
        unfold set4 at HF
        clear x0 x1 x2 x3 f0 f1 f2 f3 
        generalize (((w3.setCell ⟨w.heap.size, 0, none⟩ (.int .u8 5)).setCell ⟨w.heap.size, 1, none⟩ (.int .i64 0)).setCell ⟨w.heap.size, 2, none⟩ (.string CCs)).setCell ⟨w.heap.size, 3, none⟩ (.int .i32 0) = W5 at *
        obtain ⟨⟨y0, y1, y2, y3⟩, yl⟩ := box4 HF.out.2.2.1
        refine bodyPost_ret (v := .tuple #[.agg #[.int .u8 5, .int .i64 0, .string CCs, .int .i32 0], .bool false]) (by simp [results, Tryz.results87, go_sem, y0, y1, y2, y3]) rfl ?_
        exact HE.out _ _ HF.out
end Go.Proofs.YtplcmcealeeppaaGreatDoor
/- The reference: the token with which a text begins. -/
set_option linter.unusedVariables false
set_option linter.unusedSimpArgs false
namespace Go.Proofs.YtplcmcealeeppaaGreatDoor
open Go Go.RowKit L8

def TR (o : Option (Nat × Bs × Int × Nat)) (e : Ending) : Prop := match o with
  | some (k, tx, v, n) => e = .returned (.tuple #[.agg #[.int .u8 (k : Int), .int .i64 0, .string (strOf tx), .int .i32 v], .int .i64 (n : Int)])
  | none => e = .returned (.tuple #[.agg #[.int .u8 0, .int .i64 0, .string ⟨#[]⟩, .int .i32 0], .int .i64 0])
theorem run_is {c : UInt8} {r : Bs} {m : Nat} (h1 : 1 ≤ m) (h2 : m ≤ (c :: r).length) (h : ∀ j, 1 ≤ j → j < m → wordB ((c :: r).getD j 0) = true) (hx : m = (c :: r).length ∨ wordB ((c :: r).getD m 0) = false) : 1 + wrun r = m := by
  obtain ⟨m, rfl⟩ : ∃ k, m = k + 1 := ⟨m - 1, by omega⟩
  simp only [List.length_cons] at h2 hx
  have ha : (r.take m).all wordB = true := by
    rw [List.all_eq_true]
    intro d hd
    obtain ⟨i, hi, e⟩ := List.getElem_of_mem hd
    rw [List.length_take] at hi
    have := h (i + 1) (by omega) (by omega)
    rw [List.getD_cons_succ] at this
    rw [← e, List.getElem_take]
    have e2 : r.getD i 0 = r[i] := by simp [show i < r.length by omega]
    rw [← e2]; exact this
  have hb : ∀ d, (r.drop m).head? = some d → wordB d = false := by
    intro d hd
    rw [List.head?_drop] at hd
    have hm : m < r.length := by
      have := (List.getElem?_eq_some_iff.1 hd).1
      exact this
    rcases hx with hx | hx
    · omega
    · rw [List.getD_cons_succ] at hx
      have e2 : r.getD m 0 = d := by simp [hd]
      rw [← e2]; exact hx
  have h3 := wrun_of ha hb
  rw [List.take_append_drop, List.length_take] at h3
  omega
theorem tkeep {w X Y : World} {cs : Array Value} (h : Below w.heap.size w X ∧ BoxS X w.heap.size 47 cs) (b : Below X.heap.size X Y) : Below w.heap.size w Y ∧ BoxS Y w.heap.size 47 cs := ⟨blw h.1 b, h.2.below b⟩
end Go.Proofs.YtplcmcealeeppaaGreatDoor
/- The reference: the tokens of a line. -/
set_option linter.unusedVariables false
set_option linter.unusedSimpArgs false
namespace Go.Proofs.YtplcmcealeeppaaGreatDoor
open Go Go.RowKit L8

theorem may_okx {t : Tk} (h : may t = true) (hn : OKn t) : OKx t := by
  have hk : ∀ s ∈ keys, s.length ≤ 20 := by decide
  have hs : ∀ s ∈ syms, s.length ≤ 20 := by decide
  obtain ⟨_, _, hp⟩ := may_parts h
  have e : t.tx.length ≤ 40 ∧ t.k < 256 := by
    rcases hp with ⟨h1, h2, _⟩ | ⟨h1, h2, _⟩ | ⟨h1, h2⟩ | ⟨h1, h2, _⟩ | ⟨h1, h2, _⟩
    · unfold isName at h2
      simp only [Bool.and_eq_true, decide_eq_true_eq] at h2
      omega
    · have := hk _ (isKey_mem h2); omega
    · rw [h2]; simp; omega
    · rw [h2]; simp; omega
    · have := hs _ (isSym_mem h2); omega
  exact ⟨by unfold maxLen; omega, e.2, hn.1, hn.2⟩
/-- What Tokens gives. -/
def GivesT (w : World) (s : Bs) (e : Ending) (w' : World) : Prop := ∃ A c, e = .returned (.tuple #[.slice A (tokens s).1.length c, .int .i64 (tokens s).2.1, .int .i64 (tokens s).2.2]) ∧ OwnR w' 47 w.heap.size A (tokens s).1.length c (tokens s).1 ∧ Below w.heap.size w w'
theorem tokens_long {s : Bs} (h : 256 < s.length) : tokens s = ([], 0, 3) := by unfold tokens; rw [if_pos h]
theorem tokens_err {s : Bs} {p : Nat} (h : ¬ 256 < s.length) (ht : toks s 0 = .error p) : tokens s = ([], (p : Int), 80) := by unfold tokens; rw [if_neg h, ht]
theorem tokens_ok {s : Bs} {l : List Tk} (h : ¬ 256 < s.length) (ht : toks s 0 = .ok l) : tokens s = (l, 0, 0) := by unfold tokens; rw [if_neg h, ht]
theorem givesT_err {w w' : World} {s : Bs} {n e : Int} (h : tokens s = ([], n, e)) (hb : Below w.heap.size w w') : GivesT w s (.returned (.tuple #[.slice none 0 0, .int .i64 n, .int .i64 e])) w' := by
  unfold GivesT
  rw [h]
  exact ⟨none, 0, rfl, ownR_nil w' _ _, hb⟩
def addT (out : List Tk) : Except Nat (List Tk) → Except Nat (List Tk)
  | .error e => .error e
  | .ok l => .ok (out ++ l)
theorem addT_snoc (out : List Tk) (x : Tk) (q : Except Nat (List Tk)) : addT out (match q with | .error e => .error e | .ok l => .ok (x :: l)) = addT (out ++ [x]) q := by
  cases q with
  | error e => rfl
  | ok l => simp [addT]
end Go.Proofs.YtplcmcealeeppaaGreatDoor
