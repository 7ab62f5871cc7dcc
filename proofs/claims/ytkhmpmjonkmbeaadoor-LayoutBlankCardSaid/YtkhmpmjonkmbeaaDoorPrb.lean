/- The program's valid texts. -/
import Derived.Test.YtkhmpmjonkmbeaaDoorPra
set_option linter.unusedVariables false
set_option linter.unusedSimpArgs false
namespace Go.Proofs.YtkhmpmjonkmbeaaDoor
open Go Go.RowKit L7

/-- A text that may be a row's, if it is not too long. -/
def fineT (t : Bs) : Bool := !t.isEmpty && !(t.head? == some 32) && !(t.getLast? == some 32) && !conts t && noDD t && t.all plainB
theorem fine_fineT (t : Bs) : fine t = (decide (t.length ≤ 256) && fineT t) := by
  unfold fine fineT
  cases t.isEmpty <;> cases decide (t.length ≤ 256) <;> simp
theorem fineT_bad {t : Bs} (h : t.all plainB = false) : fineT t = false := by unfold fineT; rw [h, Bool.and_false]
theorem fineT_nil : fineT [] = false := rfl
theorem fineT_as {t : Bs} (h : t ≠ []) (hp : t.all plainB = true) : fineT t = (decide (t = Lib.trimB t 32) && noDD t && !conts t) := by
  unfold fineT
  have : t.isEmpty = false := by cases t with | nil => exact absurd rfl h | cons c r => rfl
  rw [hp, this, trim_self]
  cases (t.head? == some 32) <;> cases (t.getLast? == some 32) <;> cases noDD t <;> cases conts t <;> rfl
set_option maxRecDepth 100000 in
set_option maxHeartbeats 8000000 in
theorem isText_any (l : Bs) (hl : l.length ≤ 1000000) (w : World) (hm : MaxIs w) : Calls Tryd.prog 41 #[.string (strOf l)] w fun e w' => e = .returned (.bool (fineT l)) ∧ Below w.heap.size w w' := by
  have hsz := size_strOf l
  have he := strOf_empty l
  obtain ⟨n, hn⟩ : ∃ n, l.length = n := ⟨_, rfl⟩
  have CT := Lib.hid (fun W => cTrim l (by unfold maxLen; omega) W)
  have CD := Lib.hid (fun (W : World) (b : Below w.heap.size w W) => cContains2 l (by omega) W (hm.below b))
  have CC := Lib.hid (fun W => doesContinue_any l (by unfold maxLen; omega) W)
  rw [hn] at hsz hl
  have HN := Lib.hid hn
  have HI := Lib.hid (fun (k : Nat) (hk : k < n) (W : World) => index_l l k (by omega) W)
  have CP := Lib.hid (fun (k : Nat) (W : World) => isPrinting_any (l.getD k 0) W)
  have HQ := Lib.hid (eqS l (Lib.trimB l 32))
  clear hn hm
  go_enter Tryd.func41, Tryd.ntmps41
  go_wp2
  go_loopw [6] (fun i wr => ∃ k : Nat, k ≤ n ∧ i = .int .i64 k ∧ w = wr ∧ Hid ((l.take k).all plainB = true)) (fun i _ => n - (intOf i).toNat)
  case atStart => exact ⟨0, Nat.zero_le _, rfl, rfl, Lib.hid rfl⟩
  case round =>
    obtain ⟨k, hk, rfl, rfl, H⟩ := hrel
    by_cases hlt : (k : Int) < (n : Int)
    · have h1 := HI.out k (by omega)
      have C := Lib.hid (CP.out k)
      have HS := Lib.hid (fun h => all_snoc (l := l) (k := k) (f := plainB) (by rw [HN.out]; omega) H.out h)
      have HB := Lib.hid (fun h => all_bad (l := l) (k := k) (f := plainB) (by rw [HN.out]; omega) h)
      cases hp : plainB (l.getD k 0) with
      | true =>
        rw [hp] at C
        have HX := Lib.hid (HS.out hp)
        clear hp HS HB
        generalize ((l.getD k 0).toNat : Int) = x at *
        go_wp2_with (go_at_call 52; refine (C.out _).mono ?_; rintro e w1 ⟨rfl, rfl⟩)
        go_roundw
        case rel => exact ⟨k + 1, by omega, by go_num, trivial, HX⟩
        case measure => simp [intOf]; omega
      | false =>
        rw [hp] at C
        have HX := Lib.hid (fineT_bad (HB.out hp))
        clear hp HS HB
        generalize ((l.getD k 0).toNat : Int) = x at *
        go_wp2_with (go_at_call 52; refine (C.out _).mono ?_; rintro e w1 ⟨rfl, rfl⟩)
        go_ret
        rw [HX.out]
        exact ⟨rfl, b0 w⟩
    · obtain rfl : k = n := by omega
      have hp : l.all plainB = true := by have := H.out; rwa [List.take_of_length_le (by rw [HN.out]; exact Nat.le_refl _)] at this
      clear H
      by_cases h0 : l = []
      · have HX := Lib.hid (show fineT l = false by rw [h0]; rfl)
        have he' : (strOf l).toList.isEmpty = true := by rw [he, h0]; rfl
        clear he hp h0
        go_wp2
        go_ret
        rw [HX.out]
        exact ⟨rfl, b0 w⟩
      · have HX := Lib.hid (fineT_as h0 hp)
        have he' : (strOf l).toList.isEmpty = false := by rw [he]; cases l with | nil => exact absurd rfl h0 | cons c r => rfl
        have hq := HQ.out
        clear he hp h0
        generalize hT : strOf (Lib.trimB l 32) = T at *
        clear hT
        generalize decide (l = Lib.trimB l 32) = b1 at *
        generalize noDD l = b2 at *
        generalize conts l = b3 at *
        cases b1
        · go_wp2_with (go_at_call 57; refine (CT.out _).mono ?_; rintro e w1 ⟨rfl, g1⟩; have G1 := Lib.hid g1; clear g1)
          go_ret
          rw [HX.out]
          exact ⟨rfl, G1.out⟩
        · cases b2
          · go_wp2_with (first
              | (go_at_call 57; refine (CT.out _).mono ?_; rintro e w1 ⟨rfl, g1⟩; have G1 := Lib.hid g1; clear g1)
              | (go_at_call 24; refine (CD.out _ G1.out).mono ?_; rintro e w2 ⟨rfl, rfl⟩))
            go_ret
            rw [HX.out]
            exact ⟨rfl, G1.out⟩
          · cases b3
            all_goals
              go_wp2_with (first
                | (go_at_call 57; refine (CT.out _).mono ?_; rintro e w1 ⟨rfl, g1⟩; have G1 := Lib.hid g1; clear g1)
                | (go_at_call 24; refine (CD.out _ G1.out).mono ?_; rintro e w2 ⟨rfl, rfl⟩)
                | (go_at_call 55; refine (CC.out _).mono ?_; rintro e w3 ⟨rfl, rfl⟩))
              go_ret
              rw [HX.out]
              exact ⟨rfl, G1.out⟩
end Go.Proofs.YtkhmpmjonkmbeaaDoor
