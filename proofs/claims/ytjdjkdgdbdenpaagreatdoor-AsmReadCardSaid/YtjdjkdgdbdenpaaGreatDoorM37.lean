/- The reference's line of a text: all ways through. -/
import Derived.Test.YtjdjkdgdbdenpaaGreatDoorM33
import Derived.Test.YtjdjkdgdbdenpaaGreatDoorM34
import Derived.Test.YtjdjkdgdbdenpaaGreatDoorM35
import Derived.Test.YtjdjkdgdbdenpaaGreatDoorM36
set_option linter.unusedVariables false
set_option linter.unusedSimpArgs false
namespace Go.Proofs.YtjdjkdgdbdenpaaGreatDoor
open Go Go.RowKit

theorem line_ret {w w' : World} {e : Ending} {x y : Ln} (h : e = .returned (lnV x) ∧ Below w.heap.size w w') (he : x = y) : e = .returned (lnV y) ∧ Below w.heap.size w w' := by rw [← he]; exact h
theorem isNum_45 {l : Bs} (h : 0 < l.length) (hc : l.getD 0 0 = 45) : isNum l = true := by rw [isNum_of h, hc]; rfl
theorem isNum_dig {l : Bs} (h : 0 < l.length) (h1 : 48 ≤ (l.getD 0 0).toNat) (h2 : (l.getD 0 0).toNat ≤ 57) : isNum l = true := by
  rw [isNum_of h]
  unfold isDig
  rw [decide_eq_true h1, decide_eq_true h2]
  simp
theorem isNum_no {l : Bs} (h : 0 < l.length) (h45 : ¬ l.getD 0 0 = 45) (hd : ¬ (48 ≤ (l.getD 0 0).toNat ∧ (l.getD 0 0).toNat ≤ 57)) : isNum l = false := by
  rw [isNum_of h, decide_eq_false h45]
  unfold isDig
  rw [Bool.false_or, Bool.eq_false_iff]
  simp only [ne_eq, Bool.and_eq_true, decide_eq_true_eq]
  exact hd
theorem gR0_all {S : Bs} (h : upto S 32 = S.length) : gR0 S = ⟨[], (ndF S).toNat, ndA S, [], []⟩ := by unfold gR0; rw [if_pos h]
theorem gR0_num {S S3 : Bs} (h : upto S 32 < S.length) (hS : S3 = S.drop (upto S 32 + 1)) (hn : isNum S3 = true) : gR0 S = ⟨[], (ndF (S.take (upto S 32))).toNat, numR S3, [], []⟩ := by
  unfold gR0; rw [if_neg (by omega), ← hS, if_pos hn]
theorem gR0_tgt {S S3 : Bs} (h : upto S 32 < S.length) (hS : S3 = S.drop (upto S 32 + 1)) (hn : isNum S3 = false) :
    gR0 S = ⟨[], (ndF (S.take (upto S 32))).toNat, ndA (S.take (upto S 32)), S3.take (upto S3 45), S3.drop (upto S3 45 + 1)⟩ := by
  unfold gR0; rw [if_neg (by omega), ← hS, if_neg (by rw [hn]; decide)]
theorem drop_none {l : Bs} (h : upto l 45 = l.length) : l.drop (upto l 45 + 1) = [] := List.drop_eq_nil_of_le (by omega)
theorem rline_any (l : Bs) (hl : l.length ≤ 100000) (w : World) : Calls Tryz.prog 39 #[.string (strOf l)] w fun e w' => e = .returned (lnV (gR l)) ∧ Below w.heap.size w w' := by
  by_cases h58 : upto l 58 + 1 < l.length
  · obtain ⟨S, hS⟩ : ∃ S, S = l.drop (upto l 58 + 2) := ⟨_, rfl⟩
    obtain ⟨Lb, hLb⟩ : ∃ Lb, Lb = l.take (upto l 58) := ⟨_, rfl⟩
    have hG : gR l = { gR0 S with lab := Lb } := by unfold gR; rw [if_pos h58, hS, hLb]
    by_cases h32 : upto S 32 = S.length
    · exact (rline_l_A l hl w h58 S hS Lb hLb h32).mono fun e w' h => line_ret h (by rw [hG, gR0_all h32])
    · have h32' : upto S 32 < S.length := by have := upto_le S 32; omega
      obtain ⟨S3, hS3⟩ : ∃ S3, S3 = S.drop (upto S 32 + 1) := ⟨_, rfl⟩
      by_cases h3 : S3 = []
      · exact (rline_l_Cnil l hl w h58 S hS Lb hLb h32' S3 hS3 h3).mono fun e w' h => line_ret h (by rw [hG, gR0_tgt h32' hS3 (by rw [h3]; rfl), drop_none (by rw [h3]; rfl)])
      · have hp : 0 < S3.length := List.length_pos_iff.2 h3
        by_cases h45 : S3.getD 0 0 = 45
        · exact (rline_l_B45 l hl w h58 S hS Lb hLb h32' S3 hS3 hp h45).mono fun e w' h => line_ret h (by rw [hG, gR0_num h32' hS3 (isNum_45 hp h45)])
        · have hf := upto_le S3 45
          by_cases h48 : 48 ≤ (S3.getD 0 0).toNat
          · by_cases h57 : (S3.getD 0 0).toNat ≤ 57
            · exact (rline_l_Bdig l hl w h58 S hS Lb hLb h32' S3 hS3 hp h45 h48 h57).mono fun e w' h => line_ret h (by rw [hG, gR0_num h32' hS3 (isNum_dig hp h48 h57)])
            · have hn := isNum_no hp h45 (fun h => h57 h.2)
              by_cases hq : upto S3 45 = S3.length
              · exact (rline_l_Chigh l hl w h58 S hS Lb hLb h32' S3 hS3 hp h45 h48 h57 hq).mono fun e w' h => line_ret h (by rw [hG, gR0_tgt h32' hS3 hn, drop_none hq])
              · exact (rline_l_Dhigh l hl w h58 S hS Lb hLb h32' S3 hS3 hp h45 h48 h57 (by omega)).mono fun e w' h => line_ret h (by rw [hG, gR0_tgt h32' hS3 hn])
          · have hn := isNum_no hp h45 (fun h => h48 h.1)
            by_cases hq : upto S3 45 = S3.length
            · exact (rline_l_Clow l hl w h58 S hS Lb hLb h32' S3 hS3 hp h45 h48 hq).mono fun e w' h => line_ret h (by rw [hG, gR0_tgt h32' hS3 hn, drop_none hq])
            · exact (rline_l_Dlow l hl w h58 S hS Lb hLb h32' S3 hS3 hp h45 h48 (by omega)).mono fun e w' h => line_ret h (by rw [hG, gR0_tgt h32' hS3 hn])
  · have hG : gR l = gR0 l := by unfold gR; rw [if_neg h58]
    by_cases h32 : upto l 32 = l.length
    · exact (rline_n_A l hl w h58 l rfl h32).mono fun e w' h => line_ret h (by rw [hG, gR0_all h32])
    · have h32' : upto l 32 < l.length := by have := upto_le l 32; omega
      obtain ⟨S3, hS3⟩ : ∃ S3, S3 = l.drop (upto l 32 + 1) := ⟨_, rfl⟩
      by_cases h3 : S3 = []
      · exact (rline_n_Cnil l hl w h58 l rfl h32' S3 hS3 h3).mono fun e w' h => line_ret h (by rw [hG, gR0_tgt h32' hS3 (by rw [h3]; rfl), drop_none (by rw [h3]; rfl)])
      · have hp : 0 < S3.length := List.length_pos_iff.2 h3
        by_cases h45 : S3.getD 0 0 = 45
        · exact (rline_n_B45 l hl w h58 l rfl h32' S3 hS3 hp h45).mono fun e w' h => line_ret h (by rw [hG, gR0_num h32' hS3 (isNum_45 hp h45)])
        · have hf := upto_le S3 45
          by_cases h48 : 48 ≤ (S3.getD 0 0).toNat
          · by_cases h57 : (S3.getD 0 0).toNat ≤ 57
            · exact (rline_n_Bdig l hl w h58 l rfl h32' S3 hS3 hp h45 h48 h57).mono fun e w' h => line_ret h (by rw [hG, gR0_num h32' hS3 (isNum_dig hp h48 h57)])
            · have hn := isNum_no hp h45 (fun h => h57 h.2)
              by_cases hq : upto S3 45 = S3.length
              · exact (rline_n_Chigh l hl w h58 l rfl h32' S3 hS3 hp h45 h48 h57 hq).mono fun e w' h => line_ret h (by rw [hG, gR0_tgt h32' hS3 hn, drop_none hq])
              · exact (rline_n_Dhigh l hl w h58 l rfl h32' S3 hS3 hp h45 h48 h57 (by omega)).mono fun e w' h => line_ret h (by rw [hG, gR0_tgt h32' hS3 hn])
          · have hn := isNum_no hp h45 (fun h => h48 h.1)
            by_cases hq : upto S3 45 = S3.length
            · exact (rline_n_Clow l hl w h58 l rfl h32' S3 hS3 hp h45 h48 hq).mono fun e w' h => line_ret h (by rw [hG, gR0_tgt h32' hS3 hn, drop_none hq])
            · exact (rline_n_Dlow l hl w h58 l rfl h32' S3 hS3 hp h45 h48 (by omega)).mono fun e w' h => line_ret h (by rw [hG, gR0_tgt h32' hS3 hn])
end Go.Proofs.YtjdjkdgdbdenpaaGreatDoor
