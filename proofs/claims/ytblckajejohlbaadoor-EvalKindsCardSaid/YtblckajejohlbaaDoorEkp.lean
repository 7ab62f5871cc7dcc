/- Which trees fit a kind, kind by kind; a store's word is changed to one that its kind allows. Plain Lean. -/
import Derived.Test.YtblckajejohlbaaDoorM05
set_option linter.unusedVariables false
set_option linter.unusedSimpArgs false
set_option linter.unusedVariables false
set_option linter.unusedSimpArgs false
namespace Go.Proofs.YtblckajejohlbaaDoor
open Go Go.RowKit L8 L22 L17
open L14 (inW conO)

theorem bool_letters (p q : Bool) (h : p = true ↔ q = true) : p = q := Bool.eq_iff_iff.2 h
theorem eqf_1 (vs : List Vr) {e : Kx} (h : e.k = 1) (k : Nat) : (((k : Int) == 1) || (((k : Int) == 2) && (decide ((0 : Int) ≤ e.n) && decide (e.n ≤ (255 : Int))) || ((k : Int) == 3) && ((e.n == 0) || (e.n == 1)))) = ftX vs e k := by
  have q1 : ((k : Int) == 1) = decide (k = 1) := nat_eqK k 1
  have q2 : ((k : Int) == 2) = decide (k = 2) := nat_eqK k 2
  have q3 : ((k : Int) == 3) = decide (k = 3) := nat_eqK k 3
  have q4 : (e.n == 0) = decide (e.n = 0) := int_eqK e.n 0
  have q5 : (e.n == 1) = decide (e.n = 1) := int_eqK e.n 1
  rw [q1, q2, q3, q4, q5, ftX_eq]
  unfold ftO
  dsimp only
  rw [if_pos h]
theorem eqf_2 (vs : List Vr) {e : Kx} (h : e.k = 2) {bn : Nat} (hbn : vs.length = bn) (k : Nat) : (decide (e.v < (bn : Int)) && ((vs.getD e.v.toNat v0).2 == 0) && (((vs.getD e.v.toNat v0).1 : Int) == (k : Int))) = ftX vs e k := by
  have q1 : (((vs.getD e.v.toNat v0).1 : Int) == (k : Int)) = decide ((vs.getD e.v.toNat v0).1 = k) := nat_eqK _ k
  have q2 : ((vs.getD e.v.toNat v0).2 == 0) = decide ((vs.getD e.v.toNat v0).2 = 0) := int_eqK _ 0
  subst hbn
  rw [q1, q2, ftX_eq, Bool.and_assoc]
  unfold ftO
  dsimp only
  rw [if_neg (by omega), if_pos h]
theorem eqf_3 (vs : List Vr) {e a : Kx} {r : List Kx} (h : e.k = 3) (hl : e.l = a :: r) {bn : Nat} (hbn : vs.length = bn) (k : Nat) : (decide (e.v < (bn : Int)) && decide ((0 : Int) < (vs.getD e.v.toNat v0).2) && (((vs.getD e.v.toNat v0).1 : Int) == (k : Int)) && ftX vs a 1) = ftX vs e k := by
  have q1 : (((vs.getD e.v.toNat v0).1 : Int) == (k : Int)) = decide ((vs.getD e.v.toNat v0).1 = k) := nat_eqK _ k
  subst hbn
  have g : (ftK vs e.l).getD 0 (fun _ => false) = ftX vs a := by rw [hl, ftK]; rfl
  rw [q1, ftX_eq vs e, Bool.and_assoc, Bool.and_assoc]
  unfold ftO
  dsimp only
  rw [if_neg (by omega), if_neg (by omega), if_pos h, g]
theorem eqf_6 (vs : List Vr) {e a : Kx} {r : List Kx} (h : e.k = 6) (hl : e.l = a :: r) (k : Nat) : (((e.t : Int) == (k : Int)) && (ftX vs a 1 || ftX vs a 2 || ftX vs a 3)) = ftX vs e k := by
  have q1 : ((e.t : Int) == (k : Int)) = decide (e.t = k) := nat_eqK _ k
  have g : (ftK vs e.l).getD 0 (fun _ => false) = ftX vs a := by rw [hl, ftK]; rfl
  rw [q1, ftX_eq vs e, Bool.or_assoc]
  unfold ftO
  dsimp only
  rw [if_neg (by omega), if_neg (by omega), if_neg (by omega), if_pos h, g]
theorem eqf_4n (vs : List Vr) {e a : Kx} {r : List Kx} (h : e.k = 4) (ho : e.o = 26) (hl : e.l = a :: r) (k : Nat) : (((k : Int) == 3) && ftX vs a 3) = ftX vs e k := by
  have q1 : ((k : Int) == 3) = decide (k = 3) := nat_eqK k 3
  have g : (ftK vs e.l).getD 0 (fun _ => false) = ftX vs a := by rw [hl, ftK]; rfl
  rw [q1, ftX_eq vs e]
  unfold ftO
  dsimp only
  rw [if_neg (by omega), if_neg (by omega), if_neg (by omega), if_neg (by omega), if_pos h, if_pos ho, g]
theorem eqf_4o (vs : List Vr) {e a : Kx} {r : List Kx} (h : e.k = 4) (ho : e.o ≠ 26) (hl : e.l = a :: r) (k : Nat) : (((k : Int) == 1) && ftX vs a 1) = ftX vs e k := by
  have q1 : ((k : Int) == 1) = decide (k = 1) := nat_eqK k 1
  have g : (ftK vs e.l).getD 0 (fun _ => false) = ftX vs a := by rw [hl, ftK]; rfl
  rw [q1, ftX_eq vs e]
  unfold ftO
  dsimp only
  rw [if_neg (by omega), if_neg (by omega), if_neg (by omega), if_neg (by omega), if_pos h, if_neg ho, g]
/-- The dyadic ones. -/
theorem eqf_5 (vs : List Vr) {e a b : Kx} (h : e.k = 5) (hl : e.l = [a, b]) (k : Nat) : ftX vs e k = if e.o ≤ 13 then ((k : Int) == 1) && (ftX vs a 1 && ftX vs b 1) else if k ≠ 3 then false
    else if e.o = 14 ∨ e.o = 15 then (ftX vs a 1 && ftX vs b 1) || (ftX vs a 2 && ftX vs b 2) || (ftX vs a 3 && ftX vs b 3)
    else if e.o ≤ 19 then (ftX vs a 1 && ftX vs b 1) || (ftX vs a 2 && ftX vs b 2)
    else if e.o = 22 then ftX vs a 1 && ftX vs b 1 else ftX vs a 3 && ftX vs b 3 := by
  have q1 : ((k : Int) == 1) = decide (k = 1) := nat_eqK k 1
  have g : (ftK vs e.l).getD 0 (fun _ => false) = ftX vs a := by rw [hl, ftK]; rfl
  have g2 : (ftK vs e.l).getD 1 (fun _ => false) = ftX vs b := by rw [hl, ftK, ftK]; rfl
  rw [q1, ftX_eq vs e, Bool.or_assoc]
  unfold ftO
  dsimp only
  rw [if_neg (by omega), if_neg (by omega), if_neg (by omega), if_neg (by omega), if_neg (by omega), g, g2]
/-! ### Stores -/
theorem mayS_iff {vs : List Vr} {s : St} : mayS vs s = true ↔ sndL vs = true ∧ s.length = vs.length ∧ ∀ i, i < s.length → rowV (vs.getD i v0) (s.getD i []) = true := by
  constructor
  · intro h
    refine ⟨?_, may_len h, fun i hi => may_row h hi⟩
    unfold mayS at h
    rw [Bool.and_eq_true] at h
    exact h.1
  · rintro ⟨h1, h2, h3⟩
    unfold mayS
    rw [h1, decide_eq_true h2, Bool.true_and, Bool.true_and]
    refine List.all_eq_true.2 fun p hp => ?_
    obtain ⟨i, hi, rfl⟩ := List.mem_iff_getElem.1 hp
    rw [List.length_zip] at hi
    have := h3 i (by omega)
    rw [List.getElem_zip]
    rw [List.getD_eq_getElem?_getD, List.getD_eq_getElem?_getD, List.getElem?_eq_getElem (by omega), List.getElem?_eq_getElem (by omega)] at this
    exact this
theorem rowV_set {v : Vr} {l : List Int} (h : rowV v l = true) (j : Nat) {x : Int} (hx : fitV v.1 x = true) : rowV v (l.set j x) = true := by
  unfold rowV at *
  rw [Bool.and_eq_true, decide_eq_true_eq] at *
  refine ⟨by rw [List.length_set]; exact h.1, List.all_eq_true.2 fun y hy => ?_⟩
  rcases List.mem_or_eq_of_mem_set hy with hy | rfl
  · exact List.all_eq_true.1 h.2 y hy
  · exact hx
theorem may_set {vs : List Vr} {s : St} (h : mayS vs s = true) {k : Nat} (hk : k < s.length) (j : Nat) {x : Int} (hx : fitV (vs.getD k v0).1 x = true) : mayS vs (s.set k ((s.getD k []).set j x)) = true := by
  obtain ⟨h1, h2, h3⟩ := mayS_iff.1 h
  refine mayS_iff.2 ⟨h1, by rw [List.length_set]; exact h2, fun i hi => ?_⟩
  rw [List.length_set] at hi
  by_cases e : i = k
  · subst e
    rw [L17.getD_set_self hk]
    exact rowV_set (h3 i hi) j hx
  · rw [L17.getD_set_ne e]
    exact h3 i hi
theorem may_lng {vs : List Vr} {s : St} (h : mayS vs s = true) {k : Nat} (hk : k < s.length) : (s.getD k []).length = lngV (vs.getD k v0) := by
  have := may_row h hk
  unfold rowV at this
  rw [Bool.and_eq_true, decide_eq_true_eq] at this
  exact this.1
theorem may_snd {vs : List Vr} {s : St} (h : mayS vs s = true) {k : Nat} (hk : k < s.length) : sndV (vs.getD k v0) = true := by
  obtain ⟨h1, h2, _⟩ := mayS_iff.1 h
  unfold sndL at h1
  rw [Bool.and_eq_true] at h1
  exact List.all_eq_true.1 h1.2 _ (by rw [List.getD_eq_getElem?_getD, List.getElem?_eq_getElem (by omega)]; exact List.getElem_mem _)
theorem lng_le {v : Vr} (h : sndV v = true) : 1 ≤ lngV v ∧ lngV v ≤ 64 := by
  unfold sndV at h
  simp only [Bool.and_eq_true, decide_eq_true_eq] at h
  unfold lngV
  split <;> omega
theorem fit_int (x : Int) : fitV 1 x = true := by
  unfold fitV conO
  rw [if_pos (.inl rfl)]; rfl
theorem fit_byte {x : Int} (h : 0 ≤ x ∧ x ≤ 255) : fitV 2 x = true := by
  unfold fitV conO
  rw [if_pos (.inr (.inl ⟨rfl, h⟩))]; rfl
theorem fit_bool {x : Int} (h : x = 0 ∨ x = 1) : fitV 3 x = true := by
  unfold fitV conO
  rw [if_pos (.inr (.inr ⟨rfl, h⟩))]; rfl
theorem byte_fit {x : Int} (h : fitV 2 x = true) : 0 ≤ x ∧ x ≤ 255 := by
  unfold fitV conO at h
  split at h
  · omega
  · cases h
theorem bool_fit {x : Int} (h : fitV 3 x = true) : x = 0 ∨ x = 1 := by
  unfold fitV conO at h
  split at h
  · omega
  · cases h
theorem and_255 (a : Int) : bits .and .i32 a 255 = a % 256 := by
  show IntKind.i32.wrap ((BitVec.ofInt 32 a &&& BitVec.ofInt 32 255).toNat : Int) = _
  rw [BitVec.toNat_and, BitVec.toNat_ofInt, show (BitVec.ofInt 32 255).toNat = 2 ^ 8 - 1 by decide, Nat.and_two_pow_sub_one_eq_mod, IntKind.wrap_i32]
  simp
  omega
theorem and_1 (a : Int) : bits .and .i32 a 1 = a % 2 := by
  show IntKind.i32.wrap ((BitVec.ofInt 32 a &&& BitVec.ofInt 32 1).toNat : Int) = _
  rw [BitVec.toNat_and, BitVec.toNat_ofInt, show (BitVec.ofInt 32 1).toNat = 2 ^ 1 - 1 by decide, Nat.and_two_pow_sub_one_eq_mod, IntKind.wrap_i32]
  simp
  omega
theorem sto_len (vs : List Vr) : (stoV vs).length = vs.length := by unfold stoV; rw [List.length_map]
theorem may_unsound {vs : List Vr} (h : sndL vs = false) (s : St) : mayS vs s = false := by unfold mayS; rw [h]; rfl
end Go.Proofs.YtblckajejohlbaaDoor
