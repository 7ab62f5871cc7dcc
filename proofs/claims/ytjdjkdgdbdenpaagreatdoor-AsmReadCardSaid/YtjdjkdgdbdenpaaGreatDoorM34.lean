/- The reference's line of a text: more ways through it. -/
import Derived.Test.YtjdjkdgdbdenpaaGreatDoorM32
set_option linter.unusedVariables false
set_option linter.unusedSimpArgs false
namespace Go.Proofs.YtjdjkdgdbdenpaaGreatDoor
open Go Go.RowKit

set_option maxRecDepth 100000 in
set_option maxHeartbeats 4000000 in
theorem rline_n_Clow (l : Bs) (hl : l.length ≤ 100000) (w : World) (h58 : ¬ upto l 58 + 1 < l.length) (S : Bs) (hS : S = l) (h32 : upto S 32 < S.length) (S3 : Bs) (hS3 : S3 = S.drop (upto S 32 + 1)) (h3 : 0 < S3.length) (h45 : ¬ (S3.getD 0 0) = 45) (hc : ¬ 48 ≤ ((S3.getD 0 0).toNat)) (hf : upto S3 45 = S3.length) :
    Calls Tryz.prog 39 #[.string (strOf l)] w fun e w' => e = .returned (lnV ⟨[], (ndF (S.take (upto S 32))).toNat, ndA (S.take (upto S 32)), S3.take (upto S3 45), []⟩) ∧ Below w.heap.size w w' := by
  have U1 := Lib.hid (fun (W : World) => upto_any l 58 W hl)
  rw [show ((58 : UInt8).toNat : Int) = 58 from rfl] at U1
  have hz1 := size_strOf l
  have hu1 := upto_le l 58
  subst hS
  have hlS := hl
  have U2 := Lib.hid (fun (W : World) => upto_any S 32 W hlS)
  rw [show ((32 : UInt8).toNat : Int) = 32 from rfl] at U2
  have hz2 := size_strOf S
  have hu2 := upto_le S 32
  have s3 := sl_to S (upto S 32) (by omega)
  have CN := Lib.hid (fun (W : World) => RNamed_any (strOf (S.take (upto S 32))) W)
  rw [show (strOf (S.take (upto S 32))).data.toList = S.take (upto S 32) from rfl] at CN
  have hnb := nd_bd (S.take (upto S 32))
  have HF := Lib.hid (show ((ndF (S.take (upto S 32))).toNat : Int) = ndF (S.take (upto S 32)) by omega)
  have s4 := sl_from S (upto S 32 + 1) (by omega)
  rw [← hS3] at s4
  have hl3 : S3.length ≤ 100000 := by rw [hS3]; simp; omega
  have he3 := strOf_empty S3
  have he3' : (!(strOf S3).toList.isEmpty) = !S3.isEmpty := by rw [he3]
  rw [show S3.isEmpty = false by cases S3 with | nil => cases h3 | cons a b => rfl] at he3 he3'
  have hi : ∀ W : World, (Instr.index 9 (.string (strOf S3)) (.int .i64 0)).run Tryz.prog W = .ok (.int .u8 ((S3.getD 0 0).toNat : Int)) W := fun W => index_l S3 0 h3 W
  have hq := byte_eq (S3.getD 0 0) 45
  rw [show ((45 : UInt8).toNat : Int) = 45 from rfl] at hq
  rw [decide_eq_false h45] at hq
  have q1 : ¬ (48 : Int) ≤ ((S3.getD 0 0).toNat : Int) := by omega
  generalize ((S3.getD 0 0).toNat : Int) = cc at *
  have U3 := Lib.hid (fun (W : World) => upto_any S3 45 W hl3)
  rw [show ((45 : UInt8).toNat : Int) = 45 from rfl] at U3
  have hz3 := size_strOf S3
  have hu3 := upto_le S3 45
  have s5 := sl_to S3 (upto S3 45) (by omega)
  clear hnb hS3
  generalize (ndF (S.take (upto S 32))).toNat = f1 at *
  generalize ndF (S.take (upto S 32)) = f at *
  obtain rfl := HF.out
  generalize ndA (S.take (upto S 32)) = a1 at *
  generalize ndO (S.take (upto S 32)) = o1 at *
  generalize S.take (upto S 32) = NN at *
  generalize S3.take (upto S3 45) = T at *
  generalize upto S3 45 = k3 at *
  generalize S3.length = n3 at *
  generalize upto S 32 = k2 at *
  generalize upto S 58 = k1 at *
  generalize S.length = n1 at *
  have wr1 : IntKind.i64.wrap ((k1 : Int) + 1) = (k1 : Int) + 1 := IntWalk.i64_in _ (by omega)
  have g1 : ¬ (k1 : Int) + 1 < (n1 : Int) := by omega
  have g2 : ((k2 : Int) == (n1 : Int)) = false := by simp; omega
  have wr3 : IntKind.i64.wrap ((k2 : Int) + 1) = (k2 : Int) + 1 := IntWalk.i64_in _ (by omega)
  have s4' : ∀ W : World, (Instr.slice 9 (.string (strOf S)) (some (.int .i64 ((k2 : Int) + 1))) none none).run Tryz.prog W = .ok (.string (strOf S3)) W := s4
  clear s4
  have g3 : ¬ (k3 : Int) < (n3 : Int) := by omega
  clear hu1 hu2 h58 hl h32 hl3 h3 hu3 hf h45 hc
  go_enter Tryz.func39, Tryz.ntmps39
  have HW1 := Lib.hid (two_boxes w (.string ⟨#[]⟩))
  go_wp2_with (first
    | (go_at_call 38; (with_reducible refine (U1.out _).mono ?_); rintro e v1 ⟨rfl, rfl⟩)
    | (go_at_call 38; (with_reducible refine (U2.out _).mono ?_); rintro e v1 ⟨rfl, rfl⟩)
    | (go_at_call 38; (with_reducible refine (U3.out _).mono ?_); rintro e v1 ⟨rfl, rfl⟩)
    | (go_at_call 63; (with_reducible refine (CN.out _).mono ?_); rintro e v2 ⟨rfl, b2⟩; have Q := Lib.hid (And.intro ((HW1.out.1.below b2).below (bal (b0 v2) (.cells #[.int .u8 (f1 : Int), .int .i32 a1] 70))) (And.intro ((HW1.out.2.1.below b2).below (bal (b0 v2) (.cells #[.int .u8 (f1 : Int), .int .i32 a1] 70))) (bal (blw HW1.out.2.2 b2) (.cells #[.int .u8 (f1 : Int), .int .i32 a1] 70)))); obtain ⟨⟨y0, y1, y2, y3, y4⟩, y5⟩ := box5c Q.out.1; obtain ⟨ye, yf, yg, yh, yi⟩ := box5f Q.out.1; obtain ⟨⟨z0, z1, z2, z3, z4⟩, z5⟩ := box5c Q.out.2.1; obtain ⟨ze, zf, zg, zh, zi⟩ := box5f Q.out.2.1; have yA := y_arg v2 (HW1.out.2.1.below b2).lt f1 a1; clear b2))
  have HF5 := Lib.hid (And.intro (box5_all (.string ⟨#[]⟩) (.int .u8 (f1 : Int)) (.int .i32 a1) (.string (strOf T)) (.string ⟨#[]⟩) (boxS_other (B' := w.heap.size + 1) (j := 3) (boxS_other (B' := w.heap.size + 1) (j := 2) (boxS_other (B' := w.heap.size + 1) (j := 1) Q.out.1 (by omega) (.int .u8 (f1 : Int))) (by omega) (.int .i32 a1)) (by omega) (.string (strOf T)))) (bset5 (bset (bset (bset Q.out.2.2 (B := w.heap.size + 1) (j := 1) (by omega) (.int .u8 (f1 : Int))) (B := w.heap.size + 1) (j := 2) (by omega) (.int .i32 a1)) (B := w.heap.size + 1) (j := 3) (by omega) (.string (strOf T))) (Nat.le_refl _) (.string ⟨#[]⟩) (.int .u8 (f1 : Int)) (.int .i32 a1) (.string (strOf T)) (.string ⟨#[]⟩)))
  unfold set5 at HF5
  clear y0 y1 y2 y3 y4 y5 ye yf yg yh yi z0 z1 z2 z3 z4 z5 ze zf zg zh zi Q yA
  generalize (((((((((v2.alloc (.cells #[.int .u8 (f1 : Int), .int .i32 a1] 70)).setCell ⟨w.heap.size + 1, 1, none⟩ (.int .u8 (f1 : Int))).setCell ⟨w.heap.size + 1, 2, none⟩ (.int .i32 a1)).setCell ⟨w.heap.size + 1, 3, none⟩ (.string (strOf T))).setCell ⟨w.heap.size, 0, none⟩ (.string ⟨#[]⟩)).setCell ⟨w.heap.size, 1, none⟩ (.int .u8 (f1 : Int))).setCell ⟨w.heap.size, 2, none⟩ (.int .i32 a1)).setCell ⟨w.heap.size, 3, none⟩ (.string (strOf T))).setCell ⟨w.heap.size, 4, none⟩ (.string ⟨#[]⟩)) = W5 at *
  obtain ⟨⟨z0, z1, z2, z3, z4⟩, z5⟩ := box5c HF5.out.1
  refine bodyPost_ret (v := lnV ⟨[], f1, a1, T, []⟩) (by simp [results, Tryz.results39, go_sem, z0, z1, z2, z3, z4] <;> rfl) rfl ?_
  exact ⟨rfl, HF5.out.2⟩
set_option maxRecDepth 100000 in
set_option maxHeartbeats 4000000 in
theorem rline_n_Dlow (l : Bs) (hl : l.length ≤ 100000) (w : World) (h58 : ¬ upto l 58 + 1 < l.length) (S : Bs) (hS : S = l) (h32 : upto S 32 < S.length) (S3 : Bs) (hS3 : S3 = S.drop (upto S 32 + 1)) (h3 : 0 < S3.length) (h45 : ¬ (S3.getD 0 0) = 45) (hc : ¬ 48 ≤ ((S3.getD 0 0).toNat)) (hf : upto S3 45 < S3.length) :
    Calls Tryz.prog 39 #[.string (strOf l)] w fun e w' => e = .returned (lnV ⟨[], (ndF (S.take (upto S 32))).toNat, ndA (S.take (upto S 32)), S3.take (upto S3 45), S3.drop (upto S3 45 + 1)⟩) ∧ Below w.heap.size w w' := by
  have U1 := Lib.hid (fun (W : World) => upto_any l 58 W hl)
  rw [show ((58 : UInt8).toNat : Int) = 58 from rfl] at U1
  have hz1 := size_strOf l
  have hu1 := upto_le l 58
  subst hS
  have hlS := hl
  have U2 := Lib.hid (fun (W : World) => upto_any S 32 W hlS)
  rw [show ((32 : UInt8).toNat : Int) = 32 from rfl] at U2
  have hz2 := size_strOf S
  have hu2 := upto_le S 32
  have s3 := sl_to S (upto S 32) (by omega)
  have CN := Lib.hid (fun (W : World) => RNamed_any (strOf (S.take (upto S 32))) W)
  rw [show (strOf (S.take (upto S 32))).data.toList = S.take (upto S 32) from rfl] at CN
  have hnb := nd_bd (S.take (upto S 32))
  have HF := Lib.hid (show ((ndF (S.take (upto S 32))).toNat : Int) = ndF (S.take (upto S 32)) by omega)
  have s4 := sl_from S (upto S 32 + 1) (by omega)
  rw [← hS3] at s4
  have hl3 : S3.length ≤ 100000 := by rw [hS3]; simp; omega
  have he3 := strOf_empty S3
  have he3' : (!(strOf S3).toList.isEmpty) = !S3.isEmpty := by rw [he3]
  rw [show S3.isEmpty = false by cases S3 with | nil => cases h3 | cons a b => rfl] at he3 he3'
  have hi : ∀ W : World, (Instr.index 9 (.string (strOf S3)) (.int .i64 0)).run Tryz.prog W = .ok (.int .u8 ((S3.getD 0 0).toNat : Int)) W := fun W => index_l S3 0 h3 W
  have hq := byte_eq (S3.getD 0 0) 45
  rw [show ((45 : UInt8).toNat : Int) = 45 from rfl] at hq
  rw [decide_eq_false h45] at hq
  have q1 : ¬ (48 : Int) ≤ ((S3.getD 0 0).toNat : Int) := by omega
  generalize ((S3.getD 0 0).toNat : Int) = cc at *
  have U3 := Lib.hid (fun (W : World) => upto_any S3 45 W hl3)
  rw [show ((45 : UInt8).toNat : Int) = 45 from rfl] at U3
  have hz3 := size_strOf S3
  have hu3 := upto_le S3 45
  have s5 := sl_to S3 (upto S3 45) (by omega)
  have s6 := sl_from S3 (upto S3 45 + 1) (by omega)
  clear hnb hS3
  generalize (ndF (S.take (upto S 32))).toNat = f1 at *
  generalize ndF (S.take (upto S 32)) = f at *
  obtain rfl := HF.out
  generalize ndA (S.take (upto S 32)) = a1 at *
  generalize ndO (S.take (upto S 32)) = o1 at *
  generalize S.take (upto S 32) = NN at *
  generalize S3.take (upto S3 45) = T at *
  generalize S3.drop (upto S3 45 + 1) = Fr at *
  generalize upto S3 45 = k3 at *
  generalize S3.length = n3 at *
  generalize upto S 32 = k2 at *
  generalize upto S 58 = k1 at *
  generalize S.length = n1 at *
  have wr1 : IntKind.i64.wrap ((k1 : Int) + 1) = (k1 : Int) + 1 := IntWalk.i64_in _ (by omega)
  have g1 : ¬ (k1 : Int) + 1 < (n1 : Int) := by omega
  have g2 : ((k2 : Int) == (n1 : Int)) = false := by simp; omega
  have wr3 : IntKind.i64.wrap ((k2 : Int) + 1) = (k2 : Int) + 1 := IntWalk.i64_in _ (by omega)
  have s4' : ∀ W : World, (Instr.slice 9 (.string (strOf S)) (some (.int .i64 ((k2 : Int) + 1))) none none).run Tryz.prog W = .ok (.string (strOf S3)) W := s4
  clear s4
  have g3 : (k3 : Int) < (n3 : Int) := by omega
  have wr4 : IntKind.i64.wrap ((k3 : Int) + 1) = (k3 : Int) + 1 := IntWalk.i64_in _ (by omega)
  have s6' : ∀ W : World, (Instr.slice 9 (.string (strOf S3)) (some (.int .i64 ((k3 : Int) + 1))) none none).run Tryz.prog W = .ok (.string (strOf Fr)) W := s6
  clear s6
  clear hu1 hu2 h58 hl h32 hl3 h3 hu3 hf h45 hc
  go_enter Tryz.func39, Tryz.ntmps39
  have HW1 := Lib.hid (two_boxes w (.string ⟨#[]⟩))
  go_wp2_with (first
    | (go_at_call 38; (with_reducible refine (U1.out _).mono ?_); rintro e v1 ⟨rfl, rfl⟩)
    | (go_at_call 38; (with_reducible refine (U2.out _).mono ?_); rintro e v1 ⟨rfl, rfl⟩)
    | (go_at_call 38; (with_reducible refine (U3.out _).mono ?_); rintro e v1 ⟨rfl, rfl⟩)
    | (go_at_call 63; (with_reducible refine (CN.out _).mono ?_); rintro e v2 ⟨rfl, b2⟩; have Q := Lib.hid (And.intro ((HW1.out.1.below b2).below (bal (b0 v2) (.cells #[.int .u8 (f1 : Int), .int .i32 a1] 70))) (And.intro ((HW1.out.2.1.below b2).below (bal (b0 v2) (.cells #[.int .u8 (f1 : Int), .int .i32 a1] 70))) (bal (blw HW1.out.2.2 b2) (.cells #[.int .u8 (f1 : Int), .int .i32 a1] 70)))); obtain ⟨⟨y0, y1, y2, y3, y4⟩, y5⟩ := box5c Q.out.1; obtain ⟨ye, yf, yg, yh, yi⟩ := box5f Q.out.1; obtain ⟨⟨z0, z1, z2, z3, z4⟩, z5⟩ := box5c Q.out.2.1; obtain ⟨ze, zf, zg, zh, zi⟩ := box5f Q.out.2.1; have yA := y_arg v2 (HW1.out.2.1.below b2).lt f1 a1; clear b2))
  have HF5 := Lib.hid (And.intro (box5_all (.string ⟨#[]⟩) (.int .u8 (f1 : Int)) (.int .i32 a1) (.string (strOf T)) (.string (strOf Fr)) (boxS_other (B' := w.heap.size + 1) (j := 4) (boxS_other (B' := w.heap.size + 1) (j := 3) (boxS_other (B' := w.heap.size + 1) (j := 2) (boxS_other (B' := w.heap.size + 1) (j := 1) Q.out.1 (by omega) (.int .u8 (f1 : Int))) (by omega) (.int .i32 a1)) (by omega) (.string (strOf T))) (by omega) (.string (strOf Fr)))) (bset5 (bset (bset (bset (bset Q.out.2.2 (B := w.heap.size + 1) (j := 1) (by omega) (.int .u8 (f1 : Int))) (B := w.heap.size + 1) (j := 2) (by omega) (.int .i32 a1)) (B := w.heap.size + 1) (j := 3) (by omega) (.string (strOf T))) (B := w.heap.size + 1) (j := 4) (by omega) (.string (strOf Fr))) (Nat.le_refl _) (.string ⟨#[]⟩) (.int .u8 (f1 : Int)) (.int .i32 a1) (.string (strOf T)) (.string (strOf Fr))))
  unfold set5 at HF5
  clear y0 y1 y2 y3 y4 y5 ye yf yg yh yi z0 z1 z2 z3 z4 z5 ze zf zg zh zi Q yA
  generalize ((((((((((v2.alloc (.cells #[.int .u8 (f1 : Int), .int .i32 a1] 70)).setCell ⟨w.heap.size + 1, 1, none⟩ (.int .u8 (f1 : Int))).setCell ⟨w.heap.size + 1, 2, none⟩ (.int .i32 a1)).setCell ⟨w.heap.size + 1, 3, none⟩ (.string (strOf T))).setCell ⟨w.heap.size + 1, 4, none⟩ (.string (strOf Fr))).setCell ⟨w.heap.size, 0, none⟩ (.string ⟨#[]⟩)).setCell ⟨w.heap.size, 1, none⟩ (.int .u8 (f1 : Int))).setCell ⟨w.heap.size, 2, none⟩ (.int .i32 a1)).setCell ⟨w.heap.size, 3, none⟩ (.string (strOf T))).setCell ⟨w.heap.size, 4, none⟩ (.string (strOf Fr))) = W5 at *
  obtain ⟨⟨z0, z1, z2, z3, z4⟩, z5⟩ := box5c HF5.out.1
  refine bodyPost_ret (v := lnV ⟨[], f1, a1, T, Fr⟩) (by simp [results, Tryz.results39, go_sem, z0, z1, z2, z3, z4] <;> rfl) rfl ?_
  exact ⟨rfl, HF5.out.2⟩
set_option maxRecDepth 100000 in
set_option maxHeartbeats 4000000 in
theorem rline_n_Chigh (l : Bs) (hl : l.length ≤ 100000) (w : World) (h58 : ¬ upto l 58 + 1 < l.length) (S : Bs) (hS : S = l) (h32 : upto S 32 < S.length) (S3 : Bs) (hS3 : S3 = S.drop (upto S 32 + 1)) (h3 : 0 < S3.length) (h45 : ¬ (S3.getD 0 0) = 45) (hc : 48 ≤ ((S3.getD 0 0).toNat)) (hd : ¬ ((S3.getD 0 0).toNat) ≤ 57) (hf : upto S3 45 = S3.length) :
    Calls Tryz.prog 39 #[.string (strOf l)] w fun e w' => e = .returned (lnV ⟨[], (ndF (S.take (upto S 32))).toNat, ndA (S.take (upto S 32)), S3.take (upto S3 45), []⟩) ∧ Below w.heap.size w w' := by
  have U1 := Lib.hid (fun (W : World) => upto_any l 58 W hl)
  rw [show ((58 : UInt8).toNat : Int) = 58 from rfl] at U1
  have hz1 := size_strOf l
  have hu1 := upto_le l 58
  subst hS
  have hlS := hl
  have U2 := Lib.hid (fun (W : World) => upto_any S 32 W hlS)
  rw [show ((32 : UInt8).toNat : Int) = 32 from rfl] at U2
  have hz2 := size_strOf S
  have hu2 := upto_le S 32
  have s3 := sl_to S (upto S 32) (by omega)
  have CN := Lib.hid (fun (W : World) => RNamed_any (strOf (S.take (upto S 32))) W)
  rw [show (strOf (S.take (upto S 32))).data.toList = S.take (upto S 32) from rfl] at CN
  have hnb := nd_bd (S.take (upto S 32))
  have HF := Lib.hid (show ((ndF (S.take (upto S 32))).toNat : Int) = ndF (S.take (upto S 32)) by omega)
  have s4 := sl_from S (upto S 32 + 1) (by omega)
  rw [← hS3] at s4
  have hl3 : S3.length ≤ 100000 := by rw [hS3]; simp; omega
  have he3 := strOf_empty S3
  have he3' : (!(strOf S3).toList.isEmpty) = !S3.isEmpty := by rw [he3]
  rw [show S3.isEmpty = false by cases S3 with | nil => cases h3 | cons a b => rfl] at he3 he3'
  have hi : ∀ W : World, (Instr.index 9 (.string (strOf S3)) (.int .i64 0)).run Tryz.prog W = .ok (.int .u8 ((S3.getD 0 0).toNat : Int)) W := fun W => index_l S3 0 h3 W
  have hq := byte_eq (S3.getD 0 0) 45
  rw [show ((45 : UInt8).toNat : Int) = 45 from rfl] at hq
  rw [decide_eq_false h45] at hq
  have q1 : (48 : Int) ≤ ((S3.getD 0 0).toNat : Int) := by omega
  have q2 : ¬ ((S3.getD 0 0).toNat : Int) ≤ 57 := by omega
  generalize ((S3.getD 0 0).toNat : Int) = cc at *
  have U3 := Lib.hid (fun (W : World) => upto_any S3 45 W hl3)
  rw [show ((45 : UInt8).toNat : Int) = 45 from rfl] at U3
  have hz3 := size_strOf S3
  have hu3 := upto_le S3 45
  have s5 := sl_to S3 (upto S3 45) (by omega)
  clear hnb hS3
  generalize (ndF (S.take (upto S 32))).toNat = f1 at *
  generalize ndF (S.take (upto S 32)) = f at *
  obtain rfl := HF.out
  generalize ndA (S.take (upto S 32)) = a1 at *
  generalize ndO (S.take (upto S 32)) = o1 at *
  generalize S.take (upto S 32) = NN at *
  generalize S3.take (upto S3 45) = T at *
  generalize upto S3 45 = k3 at *
  generalize S3.length = n3 at *
  generalize upto S 32 = k2 at *
  generalize upto S 58 = k1 at *
  generalize S.length = n1 at *
  have wr1 : IntKind.i64.wrap ((k1 : Int) + 1) = (k1 : Int) + 1 := IntWalk.i64_in _ (by omega)
  have g1 : ¬ (k1 : Int) + 1 < (n1 : Int) := by omega
  have g2 : ((k2 : Int) == (n1 : Int)) = false := by simp; omega
  have wr3 : IntKind.i64.wrap ((k2 : Int) + 1) = (k2 : Int) + 1 := IntWalk.i64_in _ (by omega)
  have s4' : ∀ W : World, (Instr.slice 9 (.string (strOf S)) (some (.int .i64 ((k2 : Int) + 1))) none none).run Tryz.prog W = .ok (.string (strOf S3)) W := s4
  clear s4
  have g3 : ¬ (k3 : Int) < (n3 : Int) := by omega
  clear hu1 hu2 h58 hl h32 hl3 h3 hu3 hf h45 hc hd
  go_enter Tryz.func39, Tryz.ntmps39
  have HW1 := Lib.hid (two_boxes w (.string ⟨#[]⟩))
  go_wp2_with (first
    | (go_at_call 38; (with_reducible refine (U1.out _).mono ?_); rintro e v1 ⟨rfl, rfl⟩)
    | (go_at_call 38; (with_reducible refine (U2.out _).mono ?_); rintro e v1 ⟨rfl, rfl⟩)
    | (go_at_call 38; (with_reducible refine (U3.out _).mono ?_); rintro e v1 ⟨rfl, rfl⟩)
    | (go_at_call 63; (with_reducible refine (CN.out _).mono ?_); rintro e v2 ⟨rfl, b2⟩; have Q := Lib.hid (And.intro ((HW1.out.1.below b2).below (bal (b0 v2) (.cells #[.int .u8 (f1 : Int), .int .i32 a1] 70))) (And.intro ((HW1.out.2.1.below b2).below (bal (b0 v2) (.cells #[.int .u8 (f1 : Int), .int .i32 a1] 70))) (bal (blw HW1.out.2.2 b2) (.cells #[.int .u8 (f1 : Int), .int .i32 a1] 70)))); obtain ⟨⟨y0, y1, y2, y3, y4⟩, y5⟩ := box5c Q.out.1; obtain ⟨ye, yf, yg, yh, yi⟩ := box5f Q.out.1; obtain ⟨⟨z0, z1, z2, z3, z4⟩, z5⟩ := box5c Q.out.2.1; obtain ⟨ze, zf, zg, zh, zi⟩ := box5f Q.out.2.1; have yA := y_arg v2 (HW1.out.2.1.below b2).lt f1 a1; clear b2))
  have HF5 := Lib.hid (And.intro (box5_all (.string ⟨#[]⟩) (.int .u8 (f1 : Int)) (.int .i32 a1) (.string (strOf T)) (.string ⟨#[]⟩) (boxS_other (B' := w.heap.size + 1) (j := 3) (boxS_other (B' := w.heap.size + 1) (j := 2) (boxS_other (B' := w.heap.size + 1) (j := 1) Q.out.1 (by omega) (.int .u8 (f1 : Int))) (by omega) (.int .i32 a1)) (by omega) (.string (strOf T)))) (bset5 (bset (bset (bset Q.out.2.2 (B := w.heap.size + 1) (j := 1) (by omega) (.int .u8 (f1 : Int))) (B := w.heap.size + 1) (j := 2) (by omega) (.int .i32 a1)) (B := w.heap.size + 1) (j := 3) (by omega) (.string (strOf T))) (Nat.le_refl _) (.string ⟨#[]⟩) (.int .u8 (f1 : Int)) (.int .i32 a1) (.string (strOf T)) (.string ⟨#[]⟩)))
  unfold set5 at HF5
  clear y0 y1 y2 y3 y4 y5 ye yf yg yh yi z0 z1 z2 z3 z4 z5 ze zf zg zh zi Q yA
  generalize (((((((((v2.alloc (.cells #[.int .u8 (f1 : Int), .int .i32 a1] 70)).setCell ⟨w.heap.size + 1, 1, none⟩ (.int .u8 (f1 : Int))).setCell ⟨w.heap.size + 1, 2, none⟩ (.int .i32 a1)).setCell ⟨w.heap.size + 1, 3, none⟩ (.string (strOf T))).setCell ⟨w.heap.size, 0, none⟩ (.string ⟨#[]⟩)).setCell ⟨w.heap.size, 1, none⟩ (.int .u8 (f1 : Int))).setCell ⟨w.heap.size, 2, none⟩ (.int .i32 a1)).setCell ⟨w.heap.size, 3, none⟩ (.string (strOf T))).setCell ⟨w.heap.size, 4, none⟩ (.string ⟨#[]⟩)) = W5 at *
  obtain ⟨⟨z0, z1, z2, z3, z4⟩, z5⟩ := box5c HF5.out.1
  refine bodyPost_ret (v := lnV ⟨[], f1, a1, T, []⟩) (by simp [results, Tryz.results39, go_sem, z0, z1, z2, z3, z4] <;> rfl) rfl ?_
  exact ⟨rfl, HF5.out.2⟩
set_option maxRecDepth 100000 in
set_option maxHeartbeats 4000000 in
theorem rline_n_Dhigh (l : Bs) (hl : l.length ≤ 100000) (w : World) (h58 : ¬ upto l 58 + 1 < l.length) (S : Bs) (hS : S = l) (h32 : upto S 32 < S.length) (S3 : Bs) (hS3 : S3 = S.drop (upto S 32 + 1)) (h3 : 0 < S3.length) (h45 : ¬ (S3.getD 0 0) = 45) (hc : 48 ≤ ((S3.getD 0 0).toNat)) (hd : ¬ ((S3.getD 0 0).toNat) ≤ 57) (hf : upto S3 45 < S3.length) :
    Calls Tryz.prog 39 #[.string (strOf l)] w fun e w' => e = .returned (lnV ⟨[], (ndF (S.take (upto S 32))).toNat, ndA (S.take (upto S 32)), S3.take (upto S3 45), S3.drop (upto S3 45 + 1)⟩) ∧ Below w.heap.size w w' := by
  have U1 := Lib.hid (fun (W : World) => upto_any l 58 W hl)
  rw [show ((58 : UInt8).toNat : Int) = 58 from rfl] at U1
  have hz1 := size_strOf l
  have hu1 := upto_le l 58
  subst hS
  have hlS := hl
  have U2 := Lib.hid (fun (W : World) => upto_any S 32 W hlS)
  rw [show ((32 : UInt8).toNat : Int) = 32 from rfl] at U2
  have hz2 := size_strOf S
  have hu2 := upto_le S 32
  have s3 := sl_to S (upto S 32) (by omega)
  have CN := Lib.hid (fun (W : World) => RNamed_any (strOf (S.take (upto S 32))) W)
  rw [show (strOf (S.take (upto S 32))).data.toList = S.take (upto S 32) from rfl] at CN
  have hnb := nd_bd (S.take (upto S 32))
  have HF := Lib.hid (show ((ndF (S.take (upto S 32))).toNat : Int) = ndF (S.take (upto S 32)) by omega)
  have s4 := sl_from S (upto S 32 + 1) (by omega)
  rw [← hS3] at s4
  have hl3 : S3.length ≤ 100000 := by rw [hS3]; simp; omega
  have he3 := strOf_empty S3
  have he3' : (!(strOf S3).toList.isEmpty) = !S3.isEmpty := by rw [he3]
  rw [show S3.isEmpty = false by cases S3 with | nil => cases h3 | cons a b => rfl] at he3 he3'
  have hi : ∀ W : World, (Instr.index 9 (.string (strOf S3)) (.int .i64 0)).run Tryz.prog W = .ok (.int .u8 ((S3.getD 0 0).toNat : Int)) W := fun W => index_l S3 0 h3 W
  have hq := byte_eq (S3.getD 0 0) 45
  rw [show ((45 : UInt8).toNat : Int) = 45 from rfl] at hq
  rw [decide_eq_false h45] at hq
  have q1 : (48 : Int) ≤ ((S3.getD 0 0).toNat : Int) := by omega
  have q2 : ¬ ((S3.getD 0 0).toNat : Int) ≤ 57 := by omega
  generalize ((S3.getD 0 0).toNat : Int) = cc at *
  have U3 := Lib.hid (fun (W : World) => upto_any S3 45 W hl3)
  rw [show ((45 : UInt8).toNat : Int) = 45 from rfl] at U3
  have hz3 := size_strOf S3
  have hu3 := upto_le S3 45
  have s5 := sl_to S3 (upto S3 45) (by omega)
  have s6 := sl_from S3 (upto S3 45 + 1) (by omega)
  clear hnb hS3
  generalize (ndF (S.take (upto S 32))).toNat = f1 at *
  generalize ndF (S.take (upto S 32)) = f at *
  obtain rfl := HF.out
  generalize ndA (S.take (upto S 32)) = a1 at *
  generalize ndO (S.take (upto S 32)) = o1 at *
  generalize S.take (upto S 32) = NN at *
  generalize S3.take (upto S3 45) = T at *
  generalize S3.drop (upto S3 45 + 1) = Fr at *
  generalize upto S3 45 = k3 at *
  generalize S3.length = n3 at *
  generalize upto S 32 = k2 at *
  generalize upto S 58 = k1 at *
  generalize S.length = n1 at *
  have wr1 : IntKind.i64.wrap ((k1 : Int) + 1) = (k1 : Int) + 1 := IntWalk.i64_in _ (by omega)
  have g1 : ¬ (k1 : Int) + 1 < (n1 : Int) := by omega
  have g2 : ((k2 : Int) == (n1 : Int)) = false := by simp; omega
  have wr3 : IntKind.i64.wrap ((k2 : Int) + 1) = (k2 : Int) + 1 := IntWalk.i64_in _ (by omega)
  have s4' : ∀ W : World, (Instr.slice 9 (.string (strOf S)) (some (.int .i64 ((k2 : Int) + 1))) none none).run Tryz.prog W = .ok (.string (strOf S3)) W := s4
  clear s4
  have g3 : (k3 : Int) < (n3 : Int) := by omega
  have wr4 : IntKind.i64.wrap ((k3 : Int) + 1) = (k3 : Int) + 1 := IntWalk.i64_in _ (by omega)
  have s6' : ∀ W : World, (Instr.slice 9 (.string (strOf S3)) (some (.int .i64 ((k3 : Int) + 1))) none none).run Tryz.prog W = .ok (.string (strOf Fr)) W := s6
  clear s6
  clear hu1 hu2 h58 hl h32 hl3 h3 hu3 hf h45 hc hd
  go_enter Tryz.func39, Tryz.ntmps39
  have HW1 := Lib.hid (two_boxes w (.string ⟨#[]⟩))
  go_wp2_with (first
    | (go_at_call 38; (with_reducible refine (U1.out _).mono ?_); rintro e v1 ⟨rfl, rfl⟩)
    | (go_at_call 38; (with_reducible refine (U2.out _).mono ?_); rintro e v1 ⟨rfl, rfl⟩)
    | (go_at_call 38; (with_reducible refine (U3.out _).mono ?_); rintro e v1 ⟨rfl, rfl⟩)
    | (go_at_call 63; (with_reducible refine (CN.out _).mono ?_); rintro e v2 ⟨rfl, b2⟩; have Q := Lib.hid (And.intro ((HW1.out.1.below b2).below (bal (b0 v2) (.cells #[.int .u8 (f1 : Int), .int .i32 a1] 70))) (And.intro ((HW1.out.2.1.below b2).below (bal (b0 v2) (.cells #[.int .u8 (f1 : Int), .int .i32 a1] 70))) (bal (blw HW1.out.2.2 b2) (.cells #[.int .u8 (f1 : Int), .int .i32 a1] 70)))); obtain ⟨⟨y0, y1, y2, y3, y4⟩, y5⟩ := box5c Q.out.1; obtain ⟨ye, yf, yg, yh, yi⟩ := box5f Q.out.1; obtain ⟨⟨z0, z1, z2, z3, z4⟩, z5⟩ := box5c Q.out.2.1; obtain ⟨ze, zf, zg, zh, zi⟩ := box5f Q.out.2.1; have yA := y_arg v2 (HW1.out.2.1.below b2).lt f1 a1; clear b2))
  have HF5 := Lib.hid (And.intro (box5_all (.string ⟨#[]⟩) (.int .u8 (f1 : Int)) (.int .i32 a1) (.string (strOf T)) (.string (strOf Fr)) (boxS_other (B' := w.heap.size + 1) (j := 4) (boxS_other (B' := w.heap.size + 1) (j := 3) (boxS_other (B' := w.heap.size + 1) (j := 2) (boxS_other (B' := w.heap.size + 1) (j := 1) Q.out.1 (by omega) (.int .u8 (f1 : Int))) (by omega) (.int .i32 a1)) (by omega) (.string (strOf T))) (by omega) (.string (strOf Fr)))) (bset5 (bset (bset (bset (bset Q.out.2.2 (B := w.heap.size + 1) (j := 1) (by omega) (.int .u8 (f1 : Int))) (B := w.heap.size + 1) (j := 2) (by omega) (.int .i32 a1)) (B := w.heap.size + 1) (j := 3) (by omega) (.string (strOf T))) (B := w.heap.size + 1) (j := 4) (by omega) (.string (strOf Fr))) (Nat.le_refl _) (.string ⟨#[]⟩) (.int .u8 (f1 : Int)) (.int .i32 a1) (.string (strOf T)) (.string (strOf Fr))))
  unfold set5 at HF5
  clear y0 y1 y2 y3 y4 y5 ye yf yg yh yi z0 z1 z2 z3 z4 z5 ze zf zg zh zi Q yA
  generalize ((((((((((v2.alloc (.cells #[.int .u8 (f1 : Int), .int .i32 a1] 70)).setCell ⟨w.heap.size + 1, 1, none⟩ (.int .u8 (f1 : Int))).setCell ⟨w.heap.size + 1, 2, none⟩ (.int .i32 a1)).setCell ⟨w.heap.size + 1, 3, none⟩ (.string (strOf T))).setCell ⟨w.heap.size + 1, 4, none⟩ (.string (strOf Fr))).setCell ⟨w.heap.size, 0, none⟩ (.string ⟨#[]⟩)).setCell ⟨w.heap.size, 1, none⟩ (.int .u8 (f1 : Int))).setCell ⟨w.heap.size, 2, none⟩ (.int .i32 a1)).setCell ⟨w.heap.size, 3, none⟩ (.string (strOf T))).setCell ⟨w.heap.size, 4, none⟩ (.string (strOf Fr))) = W5 at *
  obtain ⟨⟨z0, z1, z2, z3, z4⟩, z5⟩ := box5c HF5.out.1
  refine bodyPost_ret (v := lnV ⟨[], f1, a1, T, Fr⟩) (by simp [results, Tryz.results39, go_sem, z0, z1, z2, z3, z4] <;> rfl) rfl ?_
  exact ⟨rfl, HF5.out.2⟩
end Go.Proofs.YtjdjkdgdbdenpaaGreatDoor
