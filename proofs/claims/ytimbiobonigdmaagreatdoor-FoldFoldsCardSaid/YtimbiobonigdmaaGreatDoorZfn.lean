/- The reference: find, Convert. -/
import Derived.Test.YtimbiobonigdmaaGreatDoorZpa
import Derived.Test.YtimbiobonigdmaaGreatDoorM12
set_option linter.unusedVariables false
set_option linter.unusedSimpArgs false
namespace Go.Proofs.YtimbiobonigdmaaGreatDoor
open Go Go.RowKit L8 L10 L14

theorem take_in {ns : List Bs} {s : Bs} {r : Nat} (h : r < ns.length) : s ∈ ns.take (r + 1) ↔ s ∈ ns.take r ∨ ns.getD r [] = s := by
  rw [List.take_succ_eq_append_getElem h, List.mem_append, List.mem_singleton, List.getD_eq_getElem?_getD, List.getElem?_eq_getElem h]
  exact or_congr Iff.rfl eq_comm
set_option maxRecDepth 100000 in
set_option maxHeartbeats 8000000 in
theorem Rfind_any (s : Bs) (E : Option Addr) (k d n : Nat) (l : List Sp) (hk : l.length = k) (hn : n ≤ k) (w : World) (S : SpR w E d l) : Calls Tryz.prog 38 #[.string (strOf s), .slice E k d, .int .i64 (n : Int)] w fun e w' => e = .returned (.int .i64 (atI (fndN l s n))) ∧ w' = w := by
  have hkx : k ≤ maxLen := by have := S.le; have := S.mx; omega
  unfold maxLen at hkx
  have HS := Lib.hid (fun (j : Nat) (h : j < k) => S.rd j (by omega))
  have HF := Lib.hid (fun (j : Nat) => (show fndN l s (j + 1) = if s ∈ (l.getD j sp0).ns then some j else fndN l s j from rfl))
  have H0 := Lib.hid (show fndN l s 0 = none from rfl)
  clear S hk
  go_enter Tryz.func38, Tryz.ntmps38
  go_wp2
  go_loopw [7, 8] (fun a i wr => ∃ (j : Nat) (u : Int), j ≤ n ∧ i = .int .i64 (j : Int) ∧ a = .int .i64 u ∧ Hid (u = atI (fndN l s j)) ∧ wr = w) (fun _ i _ => n - (intOf i).toNat)
  case atStart => exact ⟨0, -1, Nat.zero_le _, rfl, rfl, Lib.hid (by rw [H0.out]; rfl), rfl⟩
  case round =>
    obtain ⟨j, u, hj, rfl, rfl, HU, rfl⟩ := hrel
    have hj0 : (0 : Int) ≤ (j : Int) := by omega
    by_cases hlt : (j : Int) < (n : Int)
    · have hltk : (j : Int) < (k : Int) := by omega
      obtain ⟨ad, rfl, ok, A, c, B, d2, h⟩ := HS.out j (by omega)
      have c5 := h.c5
      have HQ := Lib.hid h.ss
      have hnl : (l.getD j sp0).ns.length ≤ maxLen := by have := h.ss.le; have := h.ss.mx; omega
      unfold maxLen at hnl
      have HN := Lib.hid (HF.out j)
      clear h ok
      generalize (l.getD j sp0).ns = ns at *
      obtain ⟨m, hm⟩ : ∃ m, ns.length = m := ⟨_, rfl⟩
      rw [hm] at c5 hnl
      have HM := Lib.hid hm
      clear hm
      go_wp2
      go_loopw [7, 9] (fun a i wx => ∃ (r : Nat) (x : Int), r ≤ m ∧ i = .int .i64 (r : Int) ∧ a = .int .i64 x ∧ Hid ((x = (j : Int) ∧ s ∈ ns.take r) ∨ (x = u ∧ ¬ s ∈ ns.take r)) ∧ wx = wr) (fun _ i _ => m - (intOf i).toNat)
      case atStart => exact ⟨0, u, Nat.zero_le _, rfl, rfl, Lib.hid (.inr ⟨rfl, by simp⟩), rfl⟩
      case round =>
        obtain ⟨r, x, hr, rfl, rfl, G, rfl⟩ := hrel
        have hr0 : (0 : Int) ≤ (r : Int) := by omega
        by_cases hlr : (r : Int) < (m : Int)
        · obtain ⟨a2, rfl, hc⟩ := HQ.out.rd r (by have := HM.out; omega)
          have HT := Lib.hid (take_in (ns := ns) (s := s) (r := r) (by have := HM.out; omega))
          have he := eqS (ns.getD r []) s
          obtain ⟨t, ht⟩ : ∃ t, ns.getD r [] = t := ⟨_, rfl⟩
          rw [ht] at hc HT he
          clear ht
          by_cases hts : t = s
          · subst hts
            rw [decide_eq_true rfl] at he
            go_wp2
            go_roundw
            case rel => exact ⟨r + 1, (j : Int), by omega, by go_num, rfl, Lib.hid (.inl ⟨rfl, HT.out.2 (.inr rfl)⟩), trivial⟩
            case measure => simp [intOf]; omega
          · rw [decide_eq_false hts] at he
            have G2 := Lib.hid (show (x = (j : Int) ∧ s ∈ ns.take (r + 1)) ∨ (x = u ∧ ¬ s ∈ ns.take (r + 1)) from G.out.imp (fun h => ⟨h.1, HT.out.2 (.inl h.2)⟩) (fun h => ⟨h.1, fun g => (HT.out.1 g).elim h.2 hts⟩))
            clear hts G HT
            go_wp2
            go_roundw
            case rel => exact ⟨r + 1, x, by omega, by go_num, rfl, G2, trivial⟩
            case measure => simp [intOf]; omega
        · obtain rfl : r = m := by omega
          have GE := Lib.hid (show x = atI (fndN l s (j + 1)) by
            have hg := G.out
            rw [← HM.out, List.take_length] at hg
            rw [HN.out]
            rcases hg with ⟨h1, h2⟩ | ⟨h1, h2⟩
            · rw [if_pos h2, h1]; rfl
            · rw [if_neg h2, h1]; exact HU.out)
          clear G HQ HN HU
          go_wp2
          go_roundw
          case rel => exact ⟨j + 1, x, by omega, by go_num, rfl, GE, trivial⟩
          case measure => simp [intOf]; omega
    · obtain rfl : j = n := by omega
      go_wp2
      go_ret
      exact ⟨by rw [← HU.out]; rfl, rfl⟩
theorem Rsome_is (x : Option Int) (v : Int) (p : Bool) (h : p = !x.isSome) (hv : ∀ u, x = some u → u = v) (w : World) : Calls Tryz.prog 75 #[.int .i32 v, .bool p] w fun e w' => e = .returned (apR x) ∧ w = w' := by
  cases x with
  | none =>
    subst h
    show Calls _ _ _ _ fun e w' => e = .returned (.tuple #[.int .i32 0, .bool false]) ∧ w = w'
    go_enter Tryz.func75, Tryz.ntmps75
    go_wp2
    go_ret2
    exact ⟨rfl, rfl⟩
  | some u =>
    subst h
    obtain rfl := hv u rfl
    show Calls _ _ _ _ fun e w' => e = .returned (.tuple #[.int .i32 u, .bool true]) ∧ w = w'
    go_enter Tryz.func75, Tryz.ntmps75
    go_wp2
    go_ret2
    exact ⟨rfl, rfl⟩
theorem con_is (t : Nat) (v : Int) : (conO t v).isSome = (decide (t = 1) || (decide (t = 2) && (decide (0 ≤ v) && decide (v ≤ 255))) || (decide (t = 3) && (decide (0 ≤ v) && decide (v ≤ 1)))) := by
  unfold conO
  by_cases h : t = 1 ∨ (t = 2 ∧ 0 ≤ v ∧ v ≤ 255) ∨ (t = 3 ∧ (v = 0 ∨ v = 1))
  · rw [if_pos h]
    rcases h with h | ⟨h, h2, h3⟩ | ⟨h, h2⟩
    · simp [h]
    · simp [h, h2, h3]
    · rcases h2 with h2 | h2 <;> simp [h, h2]
  · rw [if_neg h]
    symm
    simp only [Option.isSome_none, Bool.or_eq_false_iff, Bool.and_eq_false_iff, decide_eq_false_iff_not]
    omega
theorem con_val {t : Nat} {v u : Int} (h : conO t v = some u) : u = v := by
  unfold conO at h
  split at h
  · injection h with h; exact h.symm
  · cases h
set_option maxRecDepth 100000 in
set_option maxHeartbeats 4000000 in
theorem Rconv_any (t : Nat) (v : Int) (w : World) : Calls Tryz.prog 39 #[.int .u8 (t : Int), .int .i32 v] w fun e w' => e = .returned (apR (conO t v)) ∧ w = w' := by
  have C := Lib.hid (fun p h => Rsome_is (conO t v) v p h (fun u h => con_val h) w)
  have HP := Lib.hid (con_is t v)
  unfold apR at *
  generalize conO t v = x at *
  have q1 : ((t : Int) == 1) = decide (t = 1) := nat_eq10 t 1
  have q2 : ((t : Int) == 2) = decide (t = 2) := nat_eq10 t 2
  have q3 : ((t : Int) == 3) = decide (t = 3) := nat_eq10 t 3
  by_cases h1 : t = 1
  · have D := Lib.hid (C.out false (by rw [HP.out]; simp [h1]))
    rw [decide_eq_true h1] at q1
    clear h1 q2 q3 HP C
    go_enter Tryz.func39, Tryz.ntmps39
    go_wp2_with (go_at_call 75; (with_reducible refine (D.out).mono ?_); rintro e w' ⟨rfl, rfl⟩)
    go_ret2
    exact ⟨rfl, rfl⟩
  · rw [decide_eq_false h1] at q1
    by_cases h2 : t = 2
    · have h3 : ¬ t = 3 := by omega
      rw [decide_eq_true h2] at q2
      rw [decide_eq_false h3] at q3
      by_cases a0 : 0 ≤ v
      · by_cases a1 : v ≤ 255
        · have D := Lib.hid (C.out false (by rw [HP.out]; simp [h2, a0, a1]))
          clear h1 h2 h3 HP C
          go_enter Tryz.func39, Tryz.ntmps39
          go_wp2_with (go_at_call 75; (with_reducible refine (D.out).mono ?_); rintro e w' ⟨rfl, rfl⟩)
          go_ret2
          exact ⟨rfl, rfl⟩
        · have D := Lib.hid (C.out true (by rw [HP.out]; simp [h2, a0, a1]))
          clear h1 h2 h3 HP C
          go_enter Tryz.func39, Tryz.ntmps39
          go_wp2_with (go_at_call 75; (with_reducible refine (D.out).mono ?_); rintro e w' ⟨rfl, rfl⟩)
          go_ret2
          exact ⟨rfl, rfl⟩
      · have D := Lib.hid (C.out true (by rw [HP.out]; simp [h2, a0]))
        clear h1 h2 h3 HP C
        go_enter Tryz.func39, Tryz.ntmps39
        go_wp2_with (go_at_call 75; (with_reducible refine (D.out).mono ?_); rintro e w' ⟨rfl, rfl⟩)
        go_ret2
        exact ⟨rfl, rfl⟩
    · rw [decide_eq_false h2] at q2
      by_cases h3 : t = 3
      · rw [decide_eq_true h3] at q3
        by_cases a0 : 0 ≤ v
        · by_cases a1 : v ≤ 1
          · have D := Lib.hid (C.out false (by rw [HP.out]; simp [h3, a0, a1]))
            clear h1 h2 h3 HP C
            go_enter Tryz.func39, Tryz.ntmps39
            go_wp2_with (go_at_call 75; (with_reducible refine (D.out).mono ?_); rintro e w' ⟨rfl, rfl⟩)
            go_ret2
            exact ⟨rfl, rfl⟩
          · have D := Lib.hid (C.out true (by rw [HP.out]; simp [h3, a0, a1]))
            clear h1 h2 h3 HP C
            go_enter Tryz.func39, Tryz.ntmps39
            go_wp2_with (go_at_call 75; (with_reducible refine (D.out).mono ?_); rintro e w' ⟨rfl, rfl⟩)
            go_ret2
            exact ⟨rfl, rfl⟩
        · have D := Lib.hid (C.out true (by rw [HP.out]; simp [h3, a0]))
          clear h1 h2 h3 HP C
          go_enter Tryz.func39, Tryz.ntmps39
          go_wp2_with (go_at_call 75; (with_reducible refine (D.out).mono ?_); rintro e w' ⟨rfl, rfl⟩)
          go_ret2
          exact ⟨rfl, rfl⟩
      · rw [decide_eq_false h3] at q3
        have D := Lib.hid (C.out true (by rw [HP.out]; simp [h1, h2, h3]))
        clear h1 h2 h3 HP C
        go_enter Tryz.func39, Tryz.ntmps39
        go_wp2_with (go_at_call 75; (with_reducible refine (D.out).mono ?_); rintro e w' ⟨rfl, rfl⟩)
        go_ret2
        exact ⟨rfl, rfl⟩
end Go.Proofs.YtimbiobonigdmaaGreatDoor
