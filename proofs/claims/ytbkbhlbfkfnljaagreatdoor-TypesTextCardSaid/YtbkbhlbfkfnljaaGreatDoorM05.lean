/- The reference: character literals. -/
import Derived.Test.YtbkbhlbfkfnljaaGreatDoorM04
import Derived.Test.YtbkbhlbfkfnljaaGreatDoorM01
set_option linter.unusedVariables false
set_option linter.unusedSimpArgs false
set_option linter.unusedVariables false
set_option linter.unusedSimpArgs false
namespace Go.Proofs.YtbkbhlbfkfnljaaGreatDoor
open Go Go.RowKit L8

/-! ### A box of four that is written whole -/
theorem box4f {W : World} {B : Nat} {t : TypeId} {cs : Array Value} (h : BoxS W B t cs) : W.frozen? ⟨B, 0, none⟩ = false ∧ W.frozen? ⟨B, 1, none⟩ = false ∧ W.frozen? ⟨B, 2, none⟩ = false ∧ W.frozen? ⟨B, 3, none⟩ = false :=
  ⟨h.frozen 0, h.frozen 1, h.frozen 2, h.frozen 3⟩
theorem box4_set0 {W : World} {B : Nat} {t : TypeId} {a b c d : Value} (v : Value) (h : BoxS W B t #[a, b, c, d]) : BoxS (W.setCell ⟨B, 0, none⟩ v) B t #[v, b, c, d] := by
  obtain ⟨hlt, hk⟩ := Array.getElem?_eq_some_iff.1 h
  show (W.heap.modify B _)[B]? = _
  rw [Array.getElem?_eq_getElem (by rw [Array.size_modify]; exact hlt), Array.getElem_modify_self, hk]
  rfl
theorem box4_set1 {W : World} {B : Nat} {t : TypeId} {a b c d : Value} (v : Value) (h : BoxS W B t #[a, b, c, d]) : BoxS (W.setCell ⟨B, 1, none⟩ v) B t #[a, v, c, d] := by
  obtain ⟨hlt, hk⟩ := Array.getElem?_eq_some_iff.1 h
  show (W.heap.modify B _)[B]? = _
  rw [Array.getElem?_eq_getElem (by rw [Array.size_modify]; exact hlt), Array.getElem_modify_self, hk]
  rfl
theorem box4_set2 {W : World} {B : Nat} {t : TypeId} {a b c d : Value} (v : Value) (h : BoxS W B t #[a, b, c, d]) : BoxS (W.setCell ⟨B, 2, none⟩ v) B t #[a, b, v, d] := by
  obtain ⟨hlt, hk⟩ := Array.getElem?_eq_some_iff.1 h
  show (W.heap.modify B _)[B]? = _
  rw [Array.getElem?_eq_getElem (by rw [Array.size_modify]; exact hlt), Array.getElem_modify_self, hk]
  rfl
theorem box4_set3 {W : World} {B : Nat} {t : TypeId} {a b c d : Value} (v : Value) (h : BoxS W B t #[a, b, c, d]) : BoxS (W.setCell ⟨B, 3, none⟩ v) B t #[a, b, c, v] := by
  obtain ⟨hlt, hk⟩ := Array.getElem?_eq_some_iff.1 h
  show (W.heap.modify B _)[B]? = _
  rw [Array.getElem?_eq_getElem (by rw [Array.size_modify]; exact hlt), Array.getElem_modify_self, hk]
  rfl
def set4 (W : World) (B : Nat) (a b c d : Value) : World := (((W.setCell ⟨B, 0, none⟩ a).setCell ⟨B, 1, none⟩ b).setCell ⟨B, 2, none⟩ c).setCell ⟨B, 3, none⟩ d
theorem box4_all {W : World} {B : Nat} {t : TypeId} {a' b' c' d' : Value} (a b c d : Value) (h : BoxS W B t #[a', b', c', d']) : BoxS (set4 W B a b c d) B t #[a, b, c, d] := box4_set3 _ (box4_set2 _ (box4_set1 _ (box4_set0 _ h)))
theorem bset4 {n : Nat} {w W : World} (h : Below n w W) {B : Nat} (hB : n ≤ B) (a b c d : Value) : Below n w (set4 W B a b c d) := bset (bset (bset (bset h hB _) hB _) hB _) hB _
/-! ### Literals -/
def QR (o : Option (Nat × Nat)) (e : Ending) : Prop := match o with
  | some (v, n) => e = .returned (.tuple #[.agg #[.int .u8 4, .int .i64 0, .string ⟨#[]⟩, .int .i32 (v : Int)], .int .i64 (n : Int)])
  | none => e = .returned (.tuple #[.agg #[.int .u8 0, .int .i64 0, .string ⟨#[]⟩, .int .i32 0], .int .i64 0])
theorem quoted_none {s : Bs} (h : ∀ m, 3 ≤ m → m ≤ 6 → quote s m = none) : L8.quoted s = none := by
  cases hq : L8.quoted s with
  | none => rfl
  | some q =>
    obtain ⟨v, n⟩ := q
    obtain ⟨h1, h2, h3, _⟩ := quoted_iff.1 hq
    rw [h n h1 h2] at h3
    cases h3
theorem quote_far {s : Bs} {m : Nat} (h : ¬ m ≤ s.length) : quote s m = none := by unfold quote; rw [if_neg h]
theorem quote_no {s : Bs} {m : Nat} (h : escape ((s.take (m - 1)).drop 1) = none) : quote s m = none := by
  unfold quote
  split
  · rw [h]
  · rfl
theorem quote_end {s : Bs} {m v : Nat} (h : escape ((s.take (m - 1)).drop 1) = some v) (h2 : s.getD (m - 1) 0 ≠ 39) : quote s m = none := by
  unfold quote
  rw [h]
  by_cases hm : m ≤ s.length
  · rw [if_pos hm]; exact if_neg h2
  · rw [if_neg hm]
theorem quote_yes {s : Bs} {m v : Nat} (hm : m ≤ s.length) (h : escape ((s.take (m - 1)).drop 1) = some v) (h2 : s.getD (m - 1) 0 = 39) : quote s m = some (v, m) := by
  unfold quote
  rw [if_pos hm, h]; exact if_pos h2
def z4 : Array Value := #[.int .u8 0, .int .i64 0, .string ⟨#[]⟩, .int .i32 0]
end Go.Proofs.YtbkbhlbfkfnljaaGreatDoor
/- The program's readers of one token, and how one is chosen. -/
set_option linter.unusedVariables false
set_option linter.unusedSimpArgs false
namespace Go.Proofs.YtbkbhlbfkfnljaaGreatDoor
open Go Go.RowKit L8

/-! ### The function that is chosen -/
def pickF (c : UInt8) : FuncId := if letter c = true then 43 else if digit c = true then 45 else if c = 35 then 46 else if c = 39 then 47 else 48
theorem pick_1 {c : UInt8} (h : letter c = true) : pickF c = 43 := by unfold pickF; rw [if_pos h]
theorem pick_2 {c : UInt8} (h : letter c = false) (h2 : digit c = true) : pickF c = 45 := by unfold pickF; rw [if_neg (by rw [h]; decide), if_pos h2]
theorem pick_3 : pickF 35 = 46 := by decide
theorem pick_4 : pickF 39 = 47 := by decide
theorem pick_5 {c : UInt8} (h : letter c = false) (h2 : digit c = false) (h3 : c ≠ 35) (h4 : c ≠ 39) : pickF c = 48 := by unfold pickF; rw [if_neg (by rw [h]; decide), if_neg (by rw [h2]; decide), if_neg h3, if_neg h4]
set_option maxRecDepth 100000 in
set_option maxHeartbeats 8000000 in
theorem chosen_any {b p : Nat} {L r : Bs} {c : UInt8} {w : World} (h : Rd w b L p) (hL : L.length ≤ 256) (hc : L.drop p = c :: r) : Calls Tryz.prog 29 #[.pointer (some ⟨b, 0, none⟩)] w fun e w' => e = .returned (.func (.func (pickF c)) #[.pointer (some ⟨b, 0, none⟩)] #[]) ∧ Below w.heap.size w w' := by
  have hp : p < L.length := by
    have := congrArg List.length hc
    rw [List.length_drop, List.length_cons] at this
    omega
  have hg : L.getD p 0 = c := by
    have h2 : L.drop p = L[p] :: L.drop (p + 1) := List.drop_eq_getElem_cons hp
    rw [hc] at h2
    injection h2 with h2 _
    simp [hp, h2]
  have hmf : ∀ (fn : Fn) (first cap : Array Value) (w : World), (Instr.makeFunc fn first cap).run Tryz.prog w = .ok (.func fn first cap) w := fun _ _ _ _ => rfl
  obtain ⟨c0, c1, f1, hb⟩ := h.cells
  have hi := index_l L p hp
  rw [hg] at hi
  have hp0 : (0 : Int) ≤ (p : Int) := by omega
  have hsz := size_strOf L
  have CL := Lib.hid (fun (W : World) => isLetter_any c W)
  have CD := Lib.hid (fun (W : World) => isDigit_any c W)
  have q35 : ((c.toNat : Int) == 35) = decide (c = 35) := byte_eq c 35 (by decide) 35 rfl
  have q39 : ((c.toNat : Int) == 39) = decide (c = 39) := byte_eq c 39 (by decide) 39 rfl
  have HB := Lib.hid (fun n => bdrew (b0 w) n)
  have hpl : (p : Int) < (L.length : Int) := by omega
  clear h hL hg hp hc hb
  rcases token_cases c with h1 | ⟨h1, h2⟩ | rfl | rfl | ⟨h1, h2, h3, h4⟩
  · rw [pick_1 h1]
    rw [h1] at CL
    clear h1
    generalize c.toNat = N at *
    generalize strOf L = S at *
    go_enter Tryz.func29, Tryz.ntmps29
    go_wp2
    go_quiet (fail)
    go_wp2_with (first
      | (go_at_call 32; (with_reducible refine (CL.out _).mono ?_); rintro e w1 ⟨rfl, rfl⟩)
      | (go_at_call 44; (with_reducible refine (CD.out _).mono ?_); rintro e w1 ⟨rfl, rfl⟩))
    go_ret
    exact ⟨rfl, HB.out _⟩
  · rw [pick_2 h1 h2]
    rw [h1] at CL
    rw [h2] at CD
    clear h1 h2
    generalize c.toNat = N at *
    generalize strOf L = S at *
    go_enter Tryz.func29, Tryz.ntmps29
    go_wp2
    go_quiet (fail)
    go_wp2_with (first
      | (go_at_call 32; (with_reducible refine (CL.out _).mono ?_); rintro e w1 ⟨rfl, rfl⟩)
      | (go_at_call 44; (with_reducible refine (CD.out _).mono ?_); rintro e w1 ⟨rfl, rfl⟩))
    go_ret
    exact ⟨rfl, HB.out _⟩
  · rw [pick_3]
    rw [show letter 35 = false by decide] at CL
    rw [show digit 35 = false by decide] at CD
    rw [show decide ((35 : UInt8) = 35) = true by decide] at q35
    generalize (35 : UInt8).toNat = N at *
    generalize strOf L = S at *
    go_enter Tryz.func29, Tryz.ntmps29
    go_wp2
    go_quiet (fail)
    go_wp2_with (first
      | (go_at_call 32; (with_reducible refine (CL.out _).mono ?_); rintro e w1 ⟨rfl, rfl⟩)
      | (go_at_call 44; (with_reducible refine (CD.out _).mono ?_); rintro e w1 ⟨rfl, rfl⟩))
    go_ret
    exact ⟨rfl, HB.out _⟩
  · rw [pick_4]
    rw [show letter 39 = false by decide] at CL
    rw [show digit 39 = false by decide] at CD
    rw [show decide ((39 : UInt8) = 35) = false by decide] at q35
    rw [show decide ((39 : UInt8) = 39) = true by decide] at q39
    generalize (39 : UInt8).toNat = N at *
    generalize strOf L = S at *
    go_enter Tryz.func29, Tryz.ntmps29
    go_wp2
    go_quiet (fail)
    go_wp2_with (first
      | (go_at_call 32; (with_reducible refine (CL.out _).mono ?_); rintro e w1 ⟨rfl, rfl⟩)
      | (go_at_call 44; (with_reducible refine (CD.out _).mono ?_); rintro e w1 ⟨rfl, rfl⟩))
    go_ret
    exact ⟨rfl, HB.out _⟩
  · rw [pick_5 h1 h2 h3 h4]
    rw [h1] at CL
    rw [h2] at CD
    rw [decide_eq_false h3] at q35
    rw [decide_eq_false h4] at q39
    clear h1 h2 h3 h4
    generalize c.toNat = N at *
    generalize strOf L = S at *
    go_enter Tryz.func29, Tryz.ntmps29
    go_wp2
    go_quiet (fail)
    go_wp2_with (first
      | (go_at_call 32; (with_reducible refine (CL.out _).mono ?_); rintro e w1 ⟨rfl, rfl⟩)
      | (go_at_call 44; (with_reducible refine (CD.out _).mono ?_); rintro e w1 ⟨rfl, rfl⟩))
    go_ret
    exact ⟨rfl, HB.out _⟩
/-! ### What a reader of one token leaves -/
def S4 (w X : World) (b : Nat) (L : Bs) (p : Nat) (cs : Array Value) : Prop := w.grownBy X (some b) ∧ Rd X b L p ∧ BoxS X w.heap.size 39 cs ∧ b < w.heap.size ∧ W1.Tab X
theorem S4.new {w : World} {b p : Nat} {L : Bs} (h : Rd w b L p) (ht : W1.Tab w) : S4 w (w.alloc (.cells #[.int .u8 0, .int .i64 0, .string ⟨#[]⟩, .int .i32 0] 39)) b L p #[.int .u8 0, .int .i64 0, .string ⟨#[]⟩, .int .i32 0] :=
  ⟨World.grownBy_alloc w _ _, BoxS.alloc h _, boxS_new w _ _, h.cells.2.2.2, ht.below (bal (b0 w) _)⟩
theorem S4.tab {w X : World} {b p : Nat} {L : Bs} {cs : Array Value} (h : S4 w X b L p cs) : W1.Tab X := h.2.2.2.2
theorem S4.below {w X Y : World} {b p : Nat} {L : Bs} {cs : Array Value} (h : S4 w X b L p cs) (k : Below X.heap.size X Y) : S4 w Y b L p cs :=
  ⟨g_trans h.1 (g_any (g_of_below k) _), h.2.1.below k, h.2.2.1.below k, h.2.2.2.1, h.2.2.2.2.below k⟩
theorem S4.read {w X Y : World} {b p q : Nat} {L : Bs} {cs : Array Value} (h : S4 w X b L p cs) (k : ReadR X Y b L q) : S4 w Y b L q cs :=
  ⟨g_trans h.1 k.2, k.1, h.2.2.1.kept k.2 (fun e => by injection e with e; have := h.2.2.2.1; omega), h.2.2.2.1, h.2.1.tab h.2.2.2.2 k.2⟩
theorem S4.fin {w X : World} {b p : Nat} {L : Bs} {a' b' c' d' : Value} (x y z u : Value) (h : S4 w X b L p #[a', b', c', d']) : S4 w (set4 X w.heap.size x y z u) b L p #[x, y, z, u] := by
  have hne : b ≠ w.heap.size := by have := h.2.2.2.1; omega
  have hg : w.grownBy (set4 X w.heap.size x y z u) (some b) := g_setN (g_setN (g_setN (g_setN h.1 (Nat.le_refl _) _) (Nat.le_refl _) _) (Nat.le_refl _) _) (Nat.le_refl _) _
  have hk : Below w.heap.size X (set4 X w.heap.size x y z u) := bset4 (Below.refl _ _) (Nat.le_refl _) x y z u
  refine ⟨hg, ?_, box4_all x y z u h.2.2.1, h.2.2.2.1, ?_⟩
  · exact boxS_other (boxS_other (boxS_other (boxS_other h.2.1 hne _) hne _) hne _) hne _
  · have ht := h.2.2.2.2
    have hB := h.2.2.1
    unfold W1.Tab Lib.TabIs World.var? at *
    cases hgn : Tryz.prog.globalNamed "internal/strconv.uint64pow10" with
    | none => simp [hgn] at ht
    | some q =>
      simp only [hgn, Option.bind_some] at ht ⊢
      by_cases hq : q = w.heap.size
      · exfalso
        subst hq
        have h2 : X.heap[w.heap.size]? = some (.cells #[a', b', c', d'] 39 (0, 0)) := hB
        rw [h2] at ht
        simp only [Option.some.injEq] at ht
        have := congrArg (fun a => a.size) ht
        simp [Lib.pow10Tab] at this
      · have e : (set4 X w.heap.size x y z u).heap[q]? = X.heap[q]? := by
          unfold set4
          rw [Below.heap_setCell _ ⟨w.heap.size, 3, none⟩ _ q hq, Below.heap_setCell _ ⟨w.heap.size, 2, none⟩ _ q hq, Below.heap_setCell _ ⟨w.heap.size, 1, none⟩ _ q hq, Below.heap_setCell _ ⟨w.heap.size, 0, none⟩ _ q hq]
        rw [e]
        exact ht
def RdR (o : Option (Nat × Bs × Int × Nat)) (L : Bs) (p b : Nat) (w : World) (e : Ending) (w' : World) : Prop := w.grownBy w' (some b) ∧ match o with
  | some (k, tx, v, n) => e = .returned (.tuple #[.agg #[.int .u8 (k : Int), .int .i64 0, .string (strOf tx), .int .i32 v], .bool true]) ∧ Rd w' b L (p + n)
  | none => ∃ (k : Nat) (tx : ByteArray) (v : Int), e = .returned (.tuple #[.agg #[.int .u8 (k : Int), .int .i64 0, .string tx, .int .i32 v], .bool false])
theorem rdr_some {s : Bs} {k n : Nat} {tx : Bs} {v : Int} {w W : World} {b p : Nat} {L : Bs} {cs : Array Value} (h : L8.token s = some (k, tx, v, n)) (H : S4 w W b L (p + n) cs) : RdR (L8.token s) L p b w (.returned (.tuple #[.agg #[.int .u8 (k : Int), .int .i64 0, .string (strOf tx), .int .i32 v], .bool true])) W := by
  rw [h]; exact ⟨H.1, rfl, H.2.1⟩
theorem rdr_none {s : Bs} {k q : Nat} {tx : ByteArray} {v : Int} {w W : World} {b p : Nat} {L : Bs} {cs : Array Value} (h : L8.token s = none) (H : S4 w W b L q cs) : RdR (L8.token s) L p b w (.returned (.tuple #[.agg #[.int .u8 (k : Int), .int .i64 0, .string tx, .int .i32 v], .bool false])) W := by
  rw [h]; exact ⟨H.1, k, tx, v, rfl⟩
theorem tw_take {c : UInt8} (r : Bs) (h : wordB c = true) : (c :: r).takeWhile wordB = (c :: r).take (1 + wrun r) ∧ ((c :: r).takeWhile wordB).length = 1 + wrun r ∧ ((c :: r).takeWhile wordB).all wordB = true ∧ (c :: r).takeWhile wordB ≠ [] := by
  have e : ∀ l : Bs, l.takeWhile wordB = l.take (l.takeWhile wordB).length := fun l => (List.prefix_iff_eq_take.1 (List.takeWhile_prefix wordB))
  have hl : ((c :: r).takeWhile wordB).length = 1 + wrun r := by rw [List.takeWhile_cons_of_pos h, List.length_cons]; unfold wrun; omega
  refine ⟨by rw [e (c :: r), hl], hl, ?_, by rw [List.takeWhile_cons_of_pos h]; simp⟩
  rw [List.all_eq_true]
  exact fun x hx => List.all_eq_true.1 List.all_takeWhile x hx
theorem drop_len {L r : Bs} {c : UInt8} {p : Nat} (hc : L.drop p = c :: r) : p + (1 + r.length) = L.length ∧ p < L.length := by
  have := congrArg List.length hc
  rw [List.length_drop, List.length_cons] at this
  omega
theorem drop_more {L r : Bs} {c : UInt8} {p : Nat} (hc : L.drop p = c :: r) : L.drop (p + 1) = r := by
  rw [← List.drop_drop, hc]; rfl
/-! ### Words and numbers -/
set_option maxRecDepth 100000 in
set_option maxHeartbeats 8000000 in
theorem readWord_any {b p : Nat} {L r : Bs} {c : UInt8} {w : World} (h : Rd w b L p) (ht : W1.Tab w) (hL : L.length ≤ 256) (hc : L.drop p = c :: r) (h1 : letter c = true) : Calls Tryz.prog 43 #[.pointer (some ⟨b, 0, none⟩)] w (RdR (L8.token (c :: r)) L p b w) := by
  obtain ⟨hl, hp⟩ := drop_len hc
  have hw : wordB c = true := by unfold wordB; rw [h1]; rfl
  have hwl := wrun_le r
  obtain ⟨t1, t2, t3, t4⟩ := tw_take r hw
  obtain ⟨m, hm⟩ : ∃ m, 1 + wrun r = m := ⟨_, rfl⟩
  have CR : Hid (∀ X, S4 w X b L p #[.int .u8 0, .int .i64 0, .string ⟨#[]⟩, .int .i32 0] → Calls Tryz.prog 59 #[.pointer (some ⟨b, 0, none⟩)] X fun e w' => e = .returned (.string (strOf (c :: r))) ∧ Below X.heap.size X w') := Lib.hid fun X H => by
    have := rest_any H.2.1 hL (by omega)
    rwa [hc] at this
  have CB := Lib.hid (fun (W : World) => wordBytes_any (c :: r) (by unfold maxLen; rw [List.length_cons]; omega) W)
  have CT : Hid (∀ X, S4 w X b L p #[.int .u8 0, .int .i64 0, .string ⟨#[]⟩, .int .i32 0] → Calls Tryz.prog 58 #[.pointer (some ⟨b, 0, none⟩), .int .i64 (m : Int)] X fun e w' => e = .returned (.string (strOf ((c :: r).takeWhile wordB))) ∧ ReadR X w' b L (p + m)) := Lib.hid fun X H => by
    have := take_any (m := m) H.2.1 hL (by omega)
    rwa [hc, ← hm, ← t1, hm] at this
  have hsz := size_strOf ((c :: r).takeWhile wordB)
  rw [t2, hm] at hsz
  have H0 := Lib.hid (S4.new h ht)
  have hm0 : (0 : Int) ≤ (m : Int) := by omega
  have ht1 := token_word (r := r) h1
  rw [← t1, hm] at ht1
  have CK := Lib.hid (fun (W : World) => Key_any ((c :: r).takeWhile wordB) W)
  have CN := Lib.hid (fun (W : World) => Name_any ((c :: r).takeWhile wordB) (by unfold maxLen; omega) W)
  clear h ht hL hc hl hp hwl t1 t2 t3 t4 hm
  generalize (c :: r).takeWhile wordB = T at *
  have HS := Lib.hid (fun (k : Nat) (W : World) (cs : Array Value) (e : L8.token (c :: r) = some (k, T, 0, m)) (H : S4 w W b L (p + m) cs) => rdr_some e H)
  have HN := Lib.hid (fun (k : Nat) (W : World) (cs : Array Value) (e : L8.token (c :: r) = none) (H : S4 w W b L (p + m) cs) => rdr_none (k := k) (tx := strOf T) (v := 0) (p := p) e H)
  cases hk : isKey T with
  | true =>
    rw [hk] at ht1 CK
    rw [if_pos rfl] at ht1
    have HE := Lib.hid (fun (W : World) (cs : Array Value) (H : S4 w W b L (p + m) cs) => HS.out 2 W cs ht1 H)
    clear HS HN ht1 hk h1 hw
    generalize strOf T = TT at *
    generalize strOf (c :: r) = S at *
    generalize RdR (L8.token (c :: r)) L p b w = P at *
    go_enter Tryz.func43, Tryz.ntmps43
    go_wp2_with (first
      | (go_at_call 59; (with_reducible refine (CR.out _ H0.out).mono ?_); rintro e w1 ⟨rfl, b1⟩; have H1 := Lib.hid (H0.out.below b1); clear b1)
      | (go_at_call 33; (with_reducible refine (CB.out _).mono ?_); rintro e w2 ⟨rfl, rfl⟩)
      | (go_at_call 58; (with_reducible refine (CT.out _ H1.out).mono ?_); rintro e w3 ⟨rfl, r1⟩; have H2 := Lib.hid (H1.out.read r1); clear r1; obtain ⟨⟨x0, x1, x2, x3⟩, xl⟩ := box4 H2.out.2.2.1; obtain ⟨f0, f1, f2, f3⟩ := box4f H2.out.2.2.1)
      | (go_at_call 34; (with_reducible refine (CK.out _).mono ?_); rintro e w4 ⟨rfl, rfl⟩)
      | (go_at_call 15; (with_reducible refine (CN.out _).mono ?_); rintro e w4 ⟨rfl, rfl⟩))
    have HF := Lib.hid (S4.fin (.int .u8 2) (.int .i64 0) (.string TT) (.int .i32 0) H2.out)
    unfold set4 at HF
    clear x0 x1 x2 x3 f0 f1 f2 f3 
    generalize (((w3.setCell ⟨w.heap.size, 0, none⟩ (.int .u8 2)).setCell ⟨w.heap.size, 1, none⟩ (.int .i64 0)).setCell ⟨w.heap.size, 2, none⟩ (.string TT)).setCell ⟨w.heap.size, 3, none⟩ (.int .i32 0) = W5 at *
    obtain ⟨⟨y0, y1, y2, y3⟩, yl⟩ := box4 HF.out.2.2.1
    refine bodyPost_ret (v := .tuple #[.agg #[.int .u8 2, .int .i64 0, .string TT, .int .i32 0], .bool true]) (by simp [results, Tryz.results43, go_sem, y0, y1, y2, y3]) rfl ?_
    exact HE.out _ _ HF.out
  | false =>
    rw [hk] at ht1 CK
    rw [if_neg (by decide)] at ht1
    cases hn : isName T with
    | true =>
      rw [hn] at ht1 CN
      rw [if_pos rfl] at ht1
      have HE := Lib.hid (fun (W : World) (cs : Array Value) (H : S4 w W b L (p + m) cs) => HS.out 1 W cs ht1 H)
      clear HS HN ht1 hk h1 hw hn
      generalize strOf T = TT at *
      generalize strOf (c :: r) = S at *
      generalize RdR (L8.token (c :: r)) L p b w = P at *
      go_enter Tryz.func43, Tryz.ntmps43
      go_wp2_with (first
        | (go_at_call 59; (with_reducible refine (CR.out _ H0.out).mono ?_); rintro e w1 ⟨rfl, b1⟩; have H1 := Lib.hid (H0.out.below b1); clear b1)
        | (go_at_call 33; (with_reducible refine (CB.out _).mono ?_); rintro e w2 ⟨rfl, rfl⟩)
        | (go_at_call 58; (with_reducible refine (CT.out _ H1.out).mono ?_); rintro e w3 ⟨rfl, r1⟩; have H2 := Lib.hid (H1.out.read r1); clear r1; obtain ⟨⟨x0, x1, x2, x3⟩, xl⟩ := box4 H2.out.2.2.1; obtain ⟨f0, f1, f2, f3⟩ := box4f H2.out.2.2.1)
        | (go_at_call 34; (with_reducible refine (CK.out _).mono ?_); rintro e w4 ⟨rfl, rfl⟩)
        | (go_at_call 15; (with_reducible refine (CN.out _).mono ?_); rintro e w4 ⟨rfl, rfl⟩))
      have HF := Lib.hid (S4.fin (.int .u8 1) (.int .i64 0) (.string TT) (.int .i32 0) H2.out)
      unfold set4 at HF
      clear x0 x1 x2 x3 f0 f1 f2 f3 
      generalize (((w3.setCell ⟨w.heap.size, 0, none⟩ (.int .u8 1)).setCell ⟨w.heap.size, 1, none⟩ (.int .i64 0)).setCell ⟨w.heap.size, 2, none⟩ (.string TT)).setCell ⟨w.heap.size, 3, none⟩ (.int .i32 0) = W5 at *
      obtain ⟨⟨y0, y1, y2, y3⟩, yl⟩ := box4 HF.out.2.2.1
      refine bodyPost_ret (v := .tuple #[.agg #[.int .u8 1, .int .i64 0, .string TT, .int .i32 0], .bool true]) (by simp [results, Tryz.results43, go_sem, y0, y1, y2, y3]) rfl ?_
      exact HE.out _ _ HF.out
    | false =>
      rw [hn] at ht1 CN
      rw [if_neg (by decide)] at ht1
      have HE := Lib.hid (fun (W : World) (cs : Array Value) (H : S4 w W b L (p + m) cs) => HN.out 1 W cs ht1 H)
      clear HS HN ht1 hk h1 hw hn
      generalize strOf T = TT at *
      generalize strOf (c :: r) = S at *
      generalize RdR (L8.token (c :: r)) L p b w = P at *
      go_enter Tryz.func43, Tryz.ntmps43
      go_wp2_with (first
        | (go_at_call 59; (with_reducible refine (CR.out _ H0.out).mono ?_); rintro e w1 ⟨rfl, b1⟩; have H1 := Lib.hid (H0.out.below b1); clear b1)
        | (go_at_call 33; (with_reducible refine (CB.out _).mono ?_); rintro e w2 ⟨rfl, rfl⟩)
        | (go_at_call 58; (with_reducible refine (CT.out _ H1.out).mono ?_); rintro e w3 ⟨rfl, r1⟩; have H2 := Lib.hid (H1.out.read r1); clear r1; obtain ⟨⟨x0, x1, x2, x3⟩, xl⟩ := box4 H2.out.2.2.1; obtain ⟨f0, f1, f2, f3⟩ := box4f H2.out.2.2.1)
        | (go_at_call 34; (with_reducible refine (CK.out _).mono ?_); rintro e w4 ⟨rfl, rfl⟩)
        | (go_at_call 15; (with_reducible refine (CN.out _).mono ?_); rintro e w4 ⟨rfl, rfl⟩))
      have HF := Lib.hid (S4.fin (.int .u8 1) (.int .i64 0) (.string TT) (.int .i32 0) H2.out)
      unfold set4 at HF
      clear x0 x1 x2 x3 f0 f1 f2 f3 
      generalize (((w3.setCell ⟨w.heap.size, 0, none⟩ (.int .u8 1)).setCell ⟨w.heap.size, 1, none⟩ (.int .i64 0)).setCell ⟨w.heap.size, 2, none⟩ (.string TT)).setCell ⟨w.heap.size, 3, none⟩ (.int .i32 0) = W5 at *
      obtain ⟨⟨y0, y1, y2, y3⟩, yl⟩ := box4 HF.out.2.2.1
      refine bodyPost_ret (v := .tuple #[.agg #[.int .u8 1, .int .i64 0, .string TT, .int .i32 0], .bool false]) (by simp [results, Tryz.results43, go_sem, y0, y1, y2, y3]) rfl ?_
      exact HE.out _ _ HF.out
set_option maxRecDepth 100000 in
set_option maxHeartbeats 8000000 in
theorem readDecimal_any {b p : Nat} {L r : Bs} {c : UInt8} {w : World} (h : Rd w b L p) (ht : W1.Tab w) (hL : L.length ≤ 256) (hc : L.drop p = c :: r) (h1 : letter c = false) (h2 : digit c = true) : Calls Tryz.prog 45 #[.pointer (some ⟨b, 0, none⟩)] w (RdR (L8.token (c :: r)) L p b w) := by
  obtain ⟨hl, hp⟩ := drop_len hc
  have hw : wordB c = true := by unfold wordB; rw [h2]; simp
  have hwl := wrun_le r
  obtain ⟨t1, t2, t3, t4⟩ := tw_take r hw
  obtain ⟨m, hm⟩ : ∃ m, 1 + wrun r = m := ⟨_, rfl⟩
  have CR : Hid (∀ X, S4 w X b L p #[.int .u8 0, .int .i64 0, .string ⟨#[]⟩, .int .i32 0] → Calls Tryz.prog 59 #[.pointer (some ⟨b, 0, none⟩)] X fun e w' => e = .returned (.string (strOf (c :: r))) ∧ Below X.heap.size X w') := Lib.hid fun X H => by
    have := rest_any H.2.1 hL (by omega)
    rwa [hc] at this
  have CB := Lib.hid (fun (W : World) => wordBytes_any (c :: r) (by unfold maxLen; rw [List.length_cons]; omega) W)
  have CT : Hid (∀ X, S4 w X b L p #[.int .u8 0, .int .i64 0, .string ⟨#[]⟩, .int .i32 0] → Calls Tryz.prog 58 #[.pointer (some ⟨b, 0, none⟩), .int .i64 (m : Int)] X fun e w' => e = .returned (.string (strOf ((c :: r).takeWhile wordB))) ∧ ReadR X w' b L (p + m)) := Lib.hid fun X H => by
    have := take_any (m := m) H.2.1 hL (by omega)
    rwa [hc, ← hm, ← t1, hm] at this
  have hsz := size_strOf ((c :: r).takeWhile wordB)
  rw [t2, hm] at hsz
  have H0 := Lib.hid (S4.new h ht)
  have hm0 : (0 : Int) ≤ (m : Int) := by omega
  have ht1 := token_num (r := r) h1 h2
  rw [← t1, hm] at ht1
  have CD := Lib.hid (fun (W : World) (h : W1.Tab W) => decimal_any ((c :: r).takeWhile wordB) t4 t3 (by unfold maxLen; omega) W h)
  clear h ht hL hc hl hp hwl t1 t2 t3 t4 hm
  generalize (c :: r).takeWhile wordB = T at *
  unfold decO at CD
  generalize value 10 10 2147483648 T = o at *
  cases o with
  | some v =>
    dsimp only at ht1
    have CD2 : Hid (∀ (W : World), W1.Tab W → Calls Tryz.prog 60 #[.string (strOf T)] W fun e w' => e = .returned (.tuple #[.int .i32 (v : Int), .bool true]) ∧ Below W.heap.size W w') := Lib.hid CD.out
    have HE := Lib.hid (fun (W : World) (cs : Array Value) (H : S4 w W b L (p + m) cs) => rdr_some ht1 H)
    clear CD ht1 h1 h2 hw
    generalize strOf T = TT at *
    generalize strOf (c :: r) = S at *
    generalize RdR (L8.token (c :: r)) L p b w = P at *
    go_enter Tryz.func45, Tryz.ntmps45
    go_wp2_with (first
      | (go_at_call 59; (with_reducible refine (CR.out _ H0.out).mono ?_); rintro e w1 ⟨rfl, b1⟩; have H1 := Lib.hid (H0.out.below b1); clear b1)
      | (go_at_call 33; (with_reducible refine (CB.out _).mono ?_); rintro e w2 ⟨rfl, rfl⟩)
      | (go_at_call 58; (with_reducible refine (CT.out _ H1.out).mono ?_); rintro e w3 ⟨rfl, r1⟩; have H2 := Lib.hid (H1.out.read r1); clear r1)
      | (go_at_call 60; (with_reducible refine (CD2.out _ H2.out.tab).mono ?_); rintro e w4 ⟨rfl, b1⟩; have H3 := Lib.hid (H2.out.below b1); clear b1; obtain ⟨⟨x0, x1, x2, x3⟩, xl⟩ := box4 H3.out.2.2.1; obtain ⟨f0, f1, f2, f3⟩ := box4f H3.out.2.2.1))
    have HF := Lib.hid (S4.fin (.int .u8 3) (.int .i64 0) (.string ⟨#[]⟩) (.int .i32 (v : Int)) H3.out)
    unfold set4 at HF
    clear x0 x1 x2 x3 f0 f1 f2 f3 
    generalize (((w4.setCell ⟨w.heap.size, 0, none⟩ (.int .u8 3)).setCell ⟨w.heap.size, 1, none⟩ (.int .i64 0)).setCell ⟨w.heap.size, 2, none⟩ (.string ⟨#[]⟩)).setCell ⟨w.heap.size, 3, none⟩ (.int .i32 (v : Int)) = W5 at *
    obtain ⟨⟨y0, y1, y2, y3⟩, yl⟩ := box4 HF.out.2.2.1
    refine bodyPost_ret (v := .tuple #[.agg #[.int .u8 3, .int .i64 0, .string ⟨#[]⟩, .int .i32 (v : Int)], .bool true]) (by simp [results, Tryz.results45, go_sem, y0, y1, y2, y3]) rfl ?_
    exact HE.out _ _ HF.out
  | none =>
    dsimp only at ht1
    have CD2 : Hid (∀ (W : World), W1.Tab W → Calls Tryz.prog 60 #[.string (strOf T)] W fun e w' => e = .returned (.tuple #[.int .i32 0, .bool false]) ∧ Below W.heap.size W w') := Lib.hid CD.out
    have HE := Lib.hid (fun (W : World) (cs : Array Value) (H : S4 w W b L (p + m) cs) => rdr_none (k := 3) (tx := ⟨#[]⟩) (v := 0) (p := p) ht1 H)
    clear CD ht1 h1 h2 hw
    generalize strOf T = TT at *
    generalize strOf (c :: r) = S at *
    generalize RdR (L8.token (c :: r)) L p b w = P at *
    go_enter Tryz.func45, Tryz.ntmps45
    go_wp2_with (first
      | (go_at_call 59; (with_reducible refine (CR.out _ H0.out).mono ?_); rintro e w1 ⟨rfl, b1⟩; have H1 := Lib.hid (H0.out.below b1); clear b1)
      | (go_at_call 33; (with_reducible refine (CB.out _).mono ?_); rintro e w2 ⟨rfl, rfl⟩)
      | (go_at_call 58; (with_reducible refine (CT.out _ H1.out).mono ?_); rintro e w3 ⟨rfl, r1⟩; have H2 := Lib.hid (H1.out.read r1); clear r1)
      | (go_at_call 60; (with_reducible refine (CD2.out _ H2.out.tab).mono ?_); rintro e w4 ⟨rfl, b1⟩; have H3 := Lib.hid (H2.out.below b1); clear b1; obtain ⟨⟨x0, x1, x2, x3⟩, xl⟩ := box4 H3.out.2.2.1; obtain ⟨f0, f1, f2, f3⟩ := box4f H3.out.2.2.1))
    have HF := Lib.hid (S4.fin (.int .u8 3) (.int .i64 0) (.string ⟨#[]⟩) (.int .i32 0) H3.out)
    unfold set4 at HF
    clear x0 x1 x2 x3 f0 f1 f2 f3 
    generalize (((w4.setCell ⟨w.heap.size, 0, none⟩ (.int .u8 3)).setCell ⟨w.heap.size, 1, none⟩ (.int .i64 0)).setCell ⟨w.heap.size, 2, none⟩ (.string ⟨#[]⟩)).setCell ⟨w.heap.size, 3, none⟩ (.int .i32 0) = W5 at *
    obtain ⟨⟨y0, y1, y2, y3⟩, yl⟩ := box4 HF.out.2.2.1
    refine bodyPost_ret (v := .tuple #[.agg #[.int .u8 3, .int .i64 0, .string ⟨#[]⟩, .int .i32 0], .bool false]) (by simp [results, Tryz.results45, go_sem, y0, y1, y2, y3]) rfl ?_
    exact HE.out _ _ HF.out
theorem tw_len (r : Bs) : (r.takeWhile wordB).length = wrun r := rfl
theorem tw_cut1 (r : Bs) : ((35 :: r).take (1 + wrun r)).drop 1 = r.takeWhile wordB := by
  rw [Nat.add_comm, List.take_succ_cons, List.drop_succ_cons, List.drop_zero]
  exact (List.prefix_iff_eq_take.1 (List.takeWhile_prefix wordB)).symm
theorem tw_take' (r : Bs) : r.takeWhile wordB = r.take (wrun r) := List.prefix_iff_eq_take.1 (List.takeWhile_prefix wordB)
set_option maxRecDepth 100000 in
set_option maxHeartbeats 8000000 in
theorem readHex_any {b p : Nat} {L r : Bs} {w : World} (h : Rd w b L p) (ht : W1.Tab w) (hL : L.length ≤ 256) (hc : L.drop p = 35 :: r) : Calls Tryz.prog 46 #[.pointer (some ⟨b, 0, none⟩)] w (RdR (L8.token (35 :: r)) L p b w) := by
  obtain ⟨hl, hp⟩ := drop_len hc
  have hwl := wrun_le r
  have hd := drop_more hc
  have t1 := tw_take' r
  obtain ⟨m, hm⟩ : ∃ m, wrun r = m := ⟨_, rfl⟩
  have CA : Hid (∀ X, S4 w X b L p #[.int .u8 0, .int .i64 0, .string ⟨#[]⟩, .int .i32 0] → Calls Tryz.prog 58 #[.pointer (some ⟨b, 0, none⟩), .int .i64 1] X fun e w' => e = .returned (.string (strOf ((L.drop p).take 1))) ∧ ReadR X w' b L (p + 1)) := Lib.hid fun X H => take_any (m := 1) H.2.1 hL (by omega)
  have CR : Hid (∀ X, S4 w X b L (p + 1) #[.int .u8 0, .int .i64 0, .string ⟨#[]⟩, .int .i32 0] → Calls Tryz.prog 59 #[.pointer (some ⟨b, 0, none⟩)] X fun e w' => e = .returned (.string (strOf r)) ∧ Below X.heap.size X w') := Lib.hid fun X H => by
    have := rest_any H.2.1 hL (by omega)
    rwa [hd] at this
  have CB := Lib.hid (fun (W : World) => wordBytes_any r (by unfold maxLen; omega) W)
  have CT : Hid (∀ X, S4 w X b L (p + 1) #[.int .u8 0, .int .i64 0, .string ⟨#[]⟩, .int .i32 0] → Calls Tryz.prog 58 #[.pointer (some ⟨b, 0, none⟩), .int .i64 (m : Int)] X fun e w' => e = .returned (.string (strOf (r.takeWhile wordB))) ∧ ReadR X w' b L (p + (1 + m))) := Lib.hid fun X H => by
    have := take_any (m := m) H.2.1 hL (by omega)
    rwa [hd, ← hm, ← t1, hm, Nat.add_assoc] at this
  have hsz := size_strOf (r.takeWhile wordB)
  rw [tw_len, hm] at hsz
  have H0 := Lib.hid (S4.new h ht)
  have hm0 : (0 : Int) ≤ (m : Int) := by omega
  have ht1 := token_hex (r := r)
  rw [tw_cut1, hm] at ht1
  have CD := Lib.hid (fun (W : World) (h : W1.Tab W) => hexadecimal_any (r.takeWhile wordB) (by rw [tw_len]; unfold maxLen; omega) W h)
  clear h ht hL hc hl hp hwl t1 hm hd
  generalize r.takeWhile wordB = T at *
  generalize (L.drop p).take 1 = U at *
  unfold hexO at CD
  generalize value 16 8 4294967296 T = o at *
  cases o with
  | some v =>
    dsimp only at ht1
    have CD2 : Hid (∀ (W : World), W1.Tab W → Calls Tryz.prog 61 #[.string (strOf T)] W fun e w' => e = .returned (.tuple #[.int .i32 (redW (v : Int)), .bool true]) ∧ Below W.heap.size W w') := Lib.hid fun W h => by
      have := CD.out W h
      rw [Option.map_some, Option.getD_some, Option.isSome_some] at this
      exact this
    have HE := Lib.hid (fun (W : World) (cs : Array Value) (H : S4 w W b L (p + (1 + m)) cs) => rdr_some ht1 H)
    clear CD ht1
    generalize redW (v : Int) = V at *
    generalize strOf T = TT at *
    generalize strOf r = S at *
    generalize strOf U = UU at *
    generalize RdR (L8.token (35 :: r)) L p b w = P at *
    go_enter Tryz.func46, Tryz.ntmps46
    go_wp2_with (first
      | (go_at_call 58; (with_reducible refine (CA.out _ H0.out).mono ?_); rintro e wa ⟨rfl, r1⟩; have Ha := Lib.hid (H0.out.read r1); clear r1)
      | (go_at_call 59; (with_reducible refine (CR.out _ Ha.out).mono ?_); rintro e w1 ⟨rfl, b1⟩; have H1 := Lib.hid (Ha.out.below b1); clear b1)
      | (go_at_call 33; (with_reducible refine (CB.out _).mono ?_); rintro e w2 ⟨rfl, rfl⟩)
      | (go_at_call 58; (with_reducible refine (CT.out _ H1.out).mono ?_); rintro e w3 ⟨rfl, r1⟩; have H2 := Lib.hid (H1.out.read r1); clear r1)
      | (go_at_call 61; (with_reducible refine (CD2.out _ H2.out.tab).mono ?_); rintro e w4 ⟨rfl, b1⟩; have H3 := Lib.hid (H2.out.below b1); clear b1; obtain ⟨⟨x0, x1, x2, x3⟩, xl⟩ := box4 H3.out.2.2.1; obtain ⟨f0, f1, f2, f3⟩ := box4f H3.out.2.2.1))
    have HF := Lib.hid (S4.fin (.int .u8 3) (.int .i64 0) (.string ⟨#[]⟩) (.int .i32 V) H3.out)
    unfold set4 at HF
    clear x0 x1 x2 x3 f0 f1 f2 f3 
    generalize (((w4.setCell ⟨w.heap.size, 0, none⟩ (.int .u8 3)).setCell ⟨w.heap.size, 1, none⟩ (.int .i64 0)).setCell ⟨w.heap.size, 2, none⟩ (.string ⟨#[]⟩)).setCell ⟨w.heap.size, 3, none⟩ (.int .i32 V) = W5 at *
    obtain ⟨⟨y0, y1, y2, y3⟩, yl⟩ := box4 HF.out.2.2.1
    refine bodyPost_ret (v := .tuple #[.agg #[.int .u8 3, .int .i64 0, .string ⟨#[]⟩, .int .i32 V], .bool true]) (by simp [results, Tryz.results46, go_sem, y0, y1, y2, y3]) rfl ?_
    exact HE.out _ _ HF.out
  | none =>
    dsimp only at ht1
    have CD2 : Hid (∀ (W : World), W1.Tab W → Calls Tryz.prog 61 #[.string (strOf T)] W fun e w' => e = .returned (.tuple #[.int .i32 0, .bool false]) ∧ Below W.heap.size W w') := Lib.hid CD.out
    have HE := Lib.hid (fun (W : World) (cs : Array Value) (H : S4 w W b L (p + (1 + m)) cs) => rdr_none (k := 3) (tx := ⟨#[]⟩) (v := 0) (p := p) ht1 H)
    clear CD ht1
    generalize strOf T = TT at *
    generalize strOf r = S at *
    generalize strOf U = UU at *
    generalize RdR (L8.token (35 :: r)) L p b w = P at *
    go_enter Tryz.func46, Tryz.ntmps46
    go_wp2_with (first
      | (go_at_call 58; (with_reducible refine (CA.out _ H0.out).mono ?_); rintro e wa ⟨rfl, r1⟩; have Ha := Lib.hid (H0.out.read r1); clear r1)
      | (go_at_call 59; (with_reducible refine (CR.out _ Ha.out).mono ?_); rintro e w1 ⟨rfl, b1⟩; have H1 := Lib.hid (Ha.out.below b1); clear b1)
      | (go_at_call 33; (with_reducible refine (CB.out _).mono ?_); rintro e w2 ⟨rfl, rfl⟩)
      | (go_at_call 58; (with_reducible refine (CT.out _ H1.out).mono ?_); rintro e w3 ⟨rfl, r1⟩; have H2 := Lib.hid (H1.out.read r1); clear r1)
      | (go_at_call 61; (with_reducible refine (CD2.out _ H2.out.tab).mono ?_); rintro e w4 ⟨rfl, b1⟩; have H3 := Lib.hid (H2.out.below b1); clear b1; obtain ⟨⟨x0, x1, x2, x3⟩, xl⟩ := box4 H3.out.2.2.1; obtain ⟨f0, f1, f2, f3⟩ := box4f H3.out.2.2.1))
    have HF := Lib.hid (S4.fin (.int .u8 3) (.int .i64 0) (.string ⟨#[]⟩) (.int .i32 0) H3.out)
    unfold set4 at HF
    clear x0 x1 x2 x3 f0 f1 f2 f3 
    generalize (((w4.setCell ⟨w.heap.size, 0, none⟩ (.int .u8 3)).setCell ⟨w.heap.size, 1, none⟩ (.int .i64 0)).setCell ⟨w.heap.size, 2, none⟩ (.string ⟨#[]⟩)).setCell ⟨w.heap.size, 3, none⟩ (.int .i32 0) = W5 at *
    obtain ⟨⟨y0, y1, y2, y3⟩, yl⟩ := box4 HF.out.2.2.1
    refine bodyPost_ret (v := .tuple #[.agg #[.int .u8 3, .int .i64 0, .string ⟨#[]⟩, .int .i32 0], .bool false]) (by simp [results, Tryz.results46, go_sem, y0, y1, y2, y3]) rfl ?_
    exact HE.out _ _ HF.out
end Go.Proofs.YtbkbhlbfkfnljaaGreatDoor
