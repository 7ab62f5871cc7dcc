/- The laws' helper: great. -/
import Derived.Test.YtimbiobonigdmaaGreatDoorFpa
import Derived.Test.YtimbiobonigdmaaGreatDoorM12
set_option linter.unusedVariables false
set_option linter.unusedSimpArgs false
set_option linter.unusedVariables false
set_option linter.unusedSimpArgs false
namespace Go.Proofs.YtimbiobonigdmaaGreatDoor
open Go Go.RowKit L8 L10 L14

theorem getD_mem_take {l : List Sp} {j : Nat} (h : j < l.length) (h2 : j < 200) : l.getD j sp0 ∈ l.take 200 := by
  rw [List.getD_eq_getElem?_getD, List.getElem?_eq_getElem h]
  exact List.mem_take_iff_getElem.2 ⟨j, by omega, rfl⟩
theorem grt_yes {l : List Sp} {j : Nat} (h : j < l.length) (h2 : j < 200) (h8 : 8 < (l.getD j sp0).ns.length) : grtX l = true := by
  unfold grtX
  rw [Bool.or_eq_true]
  exact .inl (List.any_eq_true.2 ⟨_, getD_mem_take h h2, decide_eq_true h8⟩)
theorem grt_end {l : List Sp} (h : ∀ j, j < l.length → j < 200 → (l.getD j sp0).ns.length ≤ 8) : grtX l = decide (200 < l.length) := by
  unfold grtX
  have : ((l.take 200).any fun x => decide (8 < x.ns.length)) = false := by
    rw [List.any_eq_false]
    intro x hx
    obtain ⟨j, hj, rfl⟩ := List.mem_take_iff_getElem.1 hx
    have := h j (by omega) (by omega)
    rw [List.getD_eq_getElem?_getD, List.getElem?_eq_getElem (by omega)] at this
    have hx : ¬ 8 < (l[j]).ns.length := by
      have h2 : ((some l[j]).getD sp0).ns.length ≤ 8 := this
      have h3 : (l[j]).ns.length ≤ 8 := h2
      omega
    simpa using hx
  rw [this, Bool.false_or]
set_option maxRecDepth 100000 in
set_option maxHeartbeats 4000000 in
theorem great_any (E : Option Addr) (k d : Nat) (l : List Sp) (w : World) (S : SpR w E d l) (hk : l.length = k) : Calls Tryz.prog 5 #[.slice E k d] w fun e w' => e = .returned (.bool (grtX l)) ∧ w' = w := by
  have hkx : k ≤ maxLen := by have := S.le; have := S.mx; omega
  unfold maxLen at hkx
  have HY := Lib.hid (fun (j : Nat) (h1 : j < k) (h2 : j < 200) (h8 : 8 < (l.getD j sp0).ns.length) => grt_yes (l := l) (by omega) h2 h8)
  have HE := Lib.hid (fun (h : ∀ j, j < k → j < 200 → (l.getD j sp0).ns.length ≤ 8) => (show grtX l = decide (200 < k) by rw [← hk]; exact grt_end (by rw [hk]; exact h)))
  have HS := Lib.hid (fun (j : Nat) (h : j < k) => S.rd j (by omega))
  have hnl : ∀ j, j < k → (l.getD j sp0).ns.length ≤ maxLen := fun j hj => by
    obtain ⟨ad, _, ok, A, c, B, d2, h⟩ := HS.out j hj
    have := h.ss.le
    have := h.ss.mx
    omega
  have HL := Lib.hid hnl
  clear S hk hnl
  generalize grtX l = g at *
  by_cases h200 : (200 : Int) < (k : Int)
  · obtain ⟨m, hm, hm1, hm2, hm3⟩ : ∃ m : Nat, (200 : Int) = (m : Int) ∧ m ≤ k ∧ m ≤ 200 ∧ (m = 200 ∨ m = k) := ⟨200, rfl, by omega, by omega, by omega⟩
    go_enter Tryz.func5, Tryz.ntmps5
    go_wp2
    go_loopw [7] (fun i wr => ∃ j : Nat, j ≤ m ∧ i = .int .i64 (j : Int) ∧ wr = w ∧ Hid (∀ i, i < j → (l.getD i sp0).ns.length ≤ 8)) (fun i _ => m - (intOf i).toNat)
    case atStart => exact ⟨0, Nat.zero_le _, rfl, rfl, Lib.hid fun i hi => absurd hi (by omega)⟩
    case round =>
      obtain ⟨j, hj, rfl, rfl, H⟩ := hrel
      have hj0 : (0 : Int) ≤ (j : Int) := by omega
      by_cases hlt : (j : Int) < (m : Int)
      · obtain ⟨ad, rfl, ok, A, c, B, d2, h⟩ := HS.out j (by omega)
        have c5 := h.c5
        have hL := HL.out j (by omega)
        unfold maxLen at hL
        have HN := Lib.hid (HY.out j (by omega) (by omega))
        have HK := Lib.hid (show (l.getD j sp0).ns.length ≤ 8 → ∀ i, i < j + 1 → (l.getD i sp0).ns.length ≤ 8 from fun h8 i hi => if h2 : i < j then H.out i h2 else by rw [show i = j by omega]; exact h8)
        clear h ok
        generalize (l.getD j sp0).ns.length = q at *
        by_cases h8 : (8 : Int) < (q : Int)
        · obtain rfl : g = true := HN.out (by omega)
          go_wp2
          go_ret
          exact ⟨rfl, rfl⟩
        · go_wp2
          go_roundw
          case rel => exact ⟨j + 1, by omega, by go_num, trivial, Lib.hid (HK.out (by omega))⟩
          case measure => simp [intOf]; omega
      · obtain rfl : j = m := by omega
        obtain rfl : g = true := (HE.out (fun i h1 h2 => H.out i (by omega))).trans (decide_eq_true (by omega))
        go_wp2
        go_ret
        exact ⟨by simp; omega, rfl⟩
  · have hk200 : k ≤ 200 := by omega
    go_enter Tryz.func5, Tryz.ntmps5
    go_wp2
    go_loopw [7] (fun i wr => ∃ j : Nat, j ≤ k ∧ i = .int .i64 (j : Int) ∧ wr = w ∧ Hid (∀ i, i < j → (l.getD i sp0).ns.length ≤ 8)) (fun i _ => k - (intOf i).toNat)
    case atStart => exact ⟨0, Nat.zero_le _, rfl, rfl, Lib.hid fun i hi => absurd hi (by omega)⟩
    case round =>
      obtain ⟨j, hj, rfl, rfl, H⟩ := hrel
      have hj0 : (0 : Int) ≤ (j : Int) := by omega
      by_cases hlt : (j : Int) < (k : Int)
      · obtain ⟨ad, rfl, ok, A, c, B, d2, h⟩ := HS.out j (by omega)
        have c5 := h.c5
        have hL := HL.out j (by omega)
        unfold maxLen at hL
        have HN := Lib.hid (HY.out j (by omega) (by omega))
        have HK := Lib.hid (show (l.getD j sp0).ns.length ≤ 8 → ∀ i, i < j + 1 → (l.getD i sp0).ns.length ≤ 8 from fun h8 i hi => if h2 : i < j then H.out i h2 else by rw [show i = j by omega]; exact h8)
        clear h ok
        generalize (l.getD j sp0).ns.length = q at *
        by_cases h8 : (8 : Int) < (q : Int)
        · obtain rfl : g = true := HN.out (by omega)
          go_wp2
          go_ret
          exact ⟨rfl, rfl⟩
        · go_wp2
          go_roundw
          case rel => exact ⟨j + 1, by omega, by go_num, trivial, Lib.hid (HK.out (by omega))⟩
          case measure => simp [intOf]; omega
      · obtain rfl : j = k := by omega
        obtain rfl : g = false := (HE.out (fun i h1 h2 => H.out i (by omega))).trans (decide_eq_false (by omega))
        go_wp2
        go_ret
        exact ⟨by simp; omega, rfl⟩
end Go.Proofs.YtimbiobonigdmaaGreatDoor
