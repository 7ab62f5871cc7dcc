/- The line whose text a string is: by the program. -/
import Derived.Test.YtjdjkdgdbdenpaaDoorM28
import Derived.Test.YtjdjkdgdbdenpaaDoorM18
set_option linter.unusedVariables false
set_option linter.unusedSimpArgs false
namespace Go.Proofs.YtjdjkdgdbdenpaaDoor
open Go Go.RowKit

theorem insC_lab (l : Bs) : (insC l).lab = [] := by unfold insC; split <;> rfl
theorem trim_len (l s : Bs) : (Lib.trimSuffix l s).length ≤ l.length := by
  unfold Lib.trimSuffix
  split
  · simp
  · exact Nat.le_refl _
theorem insC_okx {l : Bs} (hl : l.length ≤ 100000) (lab : Bs) (h : lab.length ≤ 100000) : OKx { insC l with lab := lab } := by
  have h1 := insC_fn l
  refine ⟨h1.1, h1.2, by show lab.length ≤ maxLen; unfold maxLen; omega, ?_, ?_⟩
  · show (insC l).tgt.length ≤ maxLen
    unfold insC maxLen
    split
    · have := cut_len1 (Lib.cut l [32]).2.1 [45]
      have := cut_len2 l [32]
      show (Lib.cut (Lib.cut l [32]).2.1 [45]).1.length ≤ _
      omega
    · simp
  · show (insC l).fr.length ≤ maxLen
    unfold insC maxLen
    split
    · have := cut_len2 (Lib.cut l [32]).2.1 [45]
      have := cut_len2 l [32]
      show (Lib.cut (Lib.cut l [32]).2.1 [45]).2.1.length ≤ _
      omega
    · simp
theorem restC_len (l : Bs) : (restC l).length ≤ l.length := by unfold restC; split; exact cut_len2 _ _; exact Nat.le_refl _
theorem labC_len (l : Bs) : (labC l).length ≤ l.length := by unfold labC; split; exact cut_len1 _ _; exact Nat.zero_le _
theorem gC_okx {l : Bs} (hl : l.length ≤ 100000) : OKx (gC l) :=
  insC_okx (Nat.le_trans (trim_len _ _) (Nat.le_trans (restC_len l) hl)) _ (Nat.le_trans (labC_len l) hl)
set_option maxRecDepth 100000 in
set_option maxHeartbeats 4000000 in
theorem lineOf_any (l : Bs) (hl : l.length ≤ 100000) (w : World) (hg : Good6 w) : Calls Tryd.prog 30 #[.string (strOf l)] w fun e w' => e = .returned (.tuple #[lnV (gC l), .bool (okC l)]) ∧ Below w.heap.size w w' := by
  have C1 := Lib.hid (fun (W : World) (b : Below w.heap.size w W) => cutC l [58, 32] W (hg.2.below b) hl)
  have C2 := Lib.hid (fun (W : World) => trimC (restC l) [10] W (Nat.le_trans (restC_len l) hl))
  have C3 := Lib.hid (fun (W : World) (b : Below w.heap.size w W) => insOf_any (Lib.trimSuffix (restC l) [10]) (Nat.le_trans (trim_len _ _) (Nat.le_trans (restC_len l) hl)) W (hg.below b))
  have C4 := Lib.hid (fun (W : World) (b : Below w.heap.size w W) => textOf_any (gC l) (gC_okx hl) W (hg.1.below b))
  rw [show strOf [58, 32] = (⟨#[58, 32]⟩ : ByteArray) from rfl] at C1
  rw [show strOf [10] = (⟨#[10]⟩ : ByteArray) from rfl] at C2
  have hlab := insC_lab (Lib.trimSuffix (restC l) [10])
  have HG := Lib.hid (show gC l = { insC (Lib.trimSuffix (restC l) [10]) with lab := labC l } from rfl)
  have HO := Lib.hid (show okC l = (vld (gC l) && decide (one (gC l) = l)) from rfl)
  have H1 := Lib.hid (show restC l = if (Lib.cut l [58, 32]).2.2 = true then (Lib.cut l [58, 32]).2.1 else l from rfl)
  have H2 := Lib.hid (show labC l = if (Lib.cut l [58, 32]).2.2 = true then (Lib.cut l [58, 32]).1 else [] from rfl)
  have HT := Lib.hid (show oneT (gC l) = if vld (gC l) = true then one (gC l) else [] from rfl)
  rw [HG.out] at C4 HO HT ⊢
  generalize okC l = ok at *
  generalize Lib.trimSuffix (restC l) [10] = k at *
  obtain ⟨y, hy⟩ : ∃ y, insC k = y := ⟨_, rfl⟩
  rw [hy] at C3 C4 hlab HG HO HT ⊢
  obtain ⟨lab, fn, arg, tgt, fr⟩ := y
  simp only at hlab
  subst hlab
  dsimp only at C4 HO HT ⊢
  clear hg hl hy
  cases hv : vld (⟨labC l, fn, arg, tgt, fr⟩ : Ln) with
  | true =>
    rw [hv] at C4 HO HT
    have hT := HT.out
    rw [if_pos rfl] at hT
    have heq := eqS (one ⟨labC l, fn, arg, tgt, fr⟩) l
    have hok := HO.out
    rw [Bool.true_and] at hok
    rw [← hok] at heq
    rw [hT] at C4
    clear hT HT HO hok hv
    generalize one ⟨labC l, fn, arg, tgt, fr⟩ = T at *
    cases hM : (Lib.cut l [58, 32]).2.2 with
    | true =>
      have h1 := H1.out
      have h2 := H2.out
      rw [hM] at C1 h1 h2
      rw [if_pos rfl] at h1 h2
      rw [← h1, ← h2] at C1
      clear H1 H2 h1 h2 hM HG
      generalize restC l = O at *
      generalize labC l = Lb at *
      go_enter Tryd.func30, Tryd.ntmps30
      go_wp2_with (first
        | (go_at_call 44; (with_reducible refine (C1.out _ (bal (b0 w) _)).mono ?_); rintro e w1 ⟨rfl, b1⟩; have B1 := Lib.hid (blw (bal (b0 w) _) b1); have X1 := Lib.hid (BoxS.below (boxS_new w _ _) b1); clear b1)
        | (go_at_call 46; (with_reducible refine (C2.out _).mono ?_); rintro e w2 ⟨rfl, rfl⟩)
        | (go_at_call 45; refine (C3.out _ B1.out).mono ?_; rintro e w3 ⟨rfl, b3⟩; have B3 := Lib.hid (bset (bset5 (blw B1.out b3) (Nat.le_refl _) (.string ⟨#[]⟩) (.int .u8 (fn : Int)) (.int .i32 arg) (.string (strOf tgt)) (.string (strOf fr))) (Nat.le_refl _) (j := 0) (.string (strOf Lb))); have X3 := X1.out.below b3; obtain ⟨⟨y0, y1, y2, y3, y4⟩, y5⟩ := box5c X3; obtain ⟨ye, yf, yg, yh, yi⟩ := box5f X3; have Y3 := Lib.hid (box5_set0 (.string (strOf Lb)) (box5_all (.string ⟨#[]⟩) (.int .u8 (fn : Int)) (.int .i32 arg) (.string (strOf tgt)) (.string (strOf fr)) X3)); unfold set5 at B3 Y3; clear X3 b3)
        | (go_at_call 26; refine (C4.out _ B3.out).mono ?_; rintro e w4 ⟨rfl, b4⟩; have B4 := Lib.hid (blw B3.out b4); have Y4 := Lib.hid (Y3.out.below b4); obtain ⟨⟨z0, z1, z2, z3, z4⟩, z5⟩ := box5c Y4.out; obtain ⟨ze, zf, zg, zh, zi⟩ := box5f Y4.out; clear b4))
      have HF5 := Lib.hid (And.intro (box5_all (.string (strOf Lb)) (.int .u8 (fn : Int)) (.int .i32 arg) (.string (strOf tgt)) (.string (strOf fr)) Y4.out) (bset5 B4.out (Nat.le_refl _) (.string (strOf Lb)) (.int .u8 (fn : Int)) (.int .i32 arg) (.string (strOf tgt)) (.string (strOf fr))))
      unfold set5 at HF5
      clear z0 z1 z2 z3 z4 z5 ze zf zg zh zi y0 y1 y2 y3 y4 y5 ye yf yg yh yi B3 Y3 B4 Y4
      generalize (((((w4.setCell ⟨w.heap.size, 0, none⟩ (.string (strOf Lb))).setCell ⟨w.heap.size, 1, none⟩ (.int .u8 (fn : Int))).setCell ⟨w.heap.size, 2, none⟩ (.int .i32 arg)).setCell ⟨w.heap.size, 3, none⟩ (.string (strOf tgt))).setCell ⟨w.heap.size, 4, none⟩ (.string (strOf fr))) = W5 at *
      obtain ⟨⟨z0, z1, z2, z3, z4⟩, z5⟩ := box5c HF5.out.1
      refine bodyPost_ret (v := .tuple #[lnV ⟨Lb, fn, arg, tgt, fr⟩, .bool ok]) (by simp [results, Tryd.results30, go_sem, z0, z1, z2, z3, z4] <;> rfl) rfl ?_
      exact ⟨rfl, HF5.out.2⟩
    | false =>
      have h1 := H1.out
      have h2 := H2.out
      rw [hM] at C1 h1 h2
      rw [if_neg (by decide)] at h1 h2
      rw [h1] at C2
      rw [h2] at C4 ⊢
      clear H1 H2 h1 h2 hM HG
      generalize (Lib.cut l [58, 32]).1 = N at *
      generalize (Lib.cut l [58, 32]).2.1 = O at *
      go_enter Tryd.func30, Tryd.ntmps30
      go_wp2_with (first
        | (go_at_call 44; (with_reducible refine (C1.out _ (bal (b0 w) _)).mono ?_); rintro e w1 ⟨rfl, b1⟩; have B1 := Lib.hid (blw (bal (b0 w) _) b1); have X1 := Lib.hid (BoxS.below (boxS_new w _ _) b1); clear b1)
        | (go_at_call 46; (with_reducible refine (C2.out _).mono ?_); rintro e w2 ⟨rfl, rfl⟩)
        | (go_at_call 45; refine (C3.out _ B1.out).mono ?_; rintro e w3 ⟨rfl, b3⟩; have B3 := Lib.hid (bset (bset5 (blw B1.out b3) (Nat.le_refl _) (.string ⟨#[]⟩) (.int .u8 (fn : Int)) (.int .i32 arg) (.string (strOf tgt)) (.string (strOf fr))) (Nat.le_refl _) (j := 0) (.string ⟨#[]⟩)); have X3 := X1.out.below b3; obtain ⟨⟨y0, y1, y2, y3, y4⟩, y5⟩ := box5c X3; obtain ⟨ye, yf, yg, yh, yi⟩ := box5f X3; have Y3 := Lib.hid (box5_set0 (.string ⟨#[]⟩) (box5_all (.string ⟨#[]⟩) (.int .u8 (fn : Int)) (.int .i32 arg) (.string (strOf tgt)) (.string (strOf fr)) X3)); unfold set5 at B3 Y3; clear X3 b3)
        | (go_at_call 26; refine (C4.out _ B3.out).mono ?_; rintro e w4 ⟨rfl, b4⟩; have B4 := Lib.hid (blw B3.out b4); have Y4 := Lib.hid (Y3.out.below b4); obtain ⟨⟨z0, z1, z2, z3, z4⟩, z5⟩ := box5c Y4.out; obtain ⟨ze, zf, zg, zh, zi⟩ := box5f Y4.out; clear b4))
      have HF5 := Lib.hid (And.intro (box5_all (.string ⟨#[]⟩) (.int .u8 (fn : Int)) (.int .i32 arg) (.string (strOf tgt)) (.string (strOf fr)) Y4.out) (bset5 B4.out (Nat.le_refl _) (.string ⟨#[]⟩) (.int .u8 (fn : Int)) (.int .i32 arg) (.string (strOf tgt)) (.string (strOf fr))))
      unfold set5 at HF5
      clear z0 z1 z2 z3 z4 z5 ze zf zg zh zi y0 y1 y2 y3 y4 y5 ye yf yg yh yi B3 Y3 B4 Y4
      generalize (((((w4.setCell ⟨w.heap.size, 0, none⟩ (.string ⟨#[]⟩)).setCell ⟨w.heap.size, 1, none⟩ (.int .u8 (fn : Int))).setCell ⟨w.heap.size, 2, none⟩ (.int .i32 arg)).setCell ⟨w.heap.size, 3, none⟩ (.string (strOf tgt))).setCell ⟨w.heap.size, 4, none⟩ (.string (strOf fr))) = W5 at *
      obtain ⟨⟨z0, z1, z2, z3, z4⟩, z5⟩ := box5c HF5.out.1
      refine bodyPost_ret (v := .tuple #[lnV ⟨[], fn, arg, tgt, fr⟩, .bool ok]) (by simp [results, Tryd.results30, go_sem, z0, z1, z2, z3, z4] <;> rfl) rfl ?_
      exact ⟨rfl, HF5.out.2⟩
  | false =>
    rw [hv] at C4 HO HT
    have hT := HT.out
    rw [if_neg (by decide)] at hT
    have hok := HO.out
    rw [Bool.false_and] at hok
    rw [hT] at C4
    rw [show strOf ([] : Bs) = (⟨#[]⟩ : ByteArray) from rfl] at C4
    clear hT HT HO hv
    subst hok
    cases hM : (Lib.cut l [58, 32]).2.2 with
    | true =>
      have h1 := H1.out
      have h2 := H2.out
      rw [hM] at C1 h1 h2
      rw [if_pos rfl] at h1 h2
      rw [← h1, ← h2] at C1
      clear H1 H2 h1 h2 hM HG
      generalize restC l = O at *
      generalize labC l = Lb at *
      go_enter Tryd.func30, Tryd.ntmps30
      go_wp2_with (first
        | (go_at_call 44; (with_reducible refine (C1.out _ (bal (b0 w) _)).mono ?_); rintro e w1 ⟨rfl, b1⟩; have B1 := Lib.hid (blw (bal (b0 w) _) b1); have X1 := Lib.hid (BoxS.below (boxS_new w _ _) b1); clear b1)
        | (go_at_call 46; (with_reducible refine (C2.out _).mono ?_); rintro e w2 ⟨rfl, rfl⟩)
        | (go_at_call 45; refine (C3.out _ B1.out).mono ?_; rintro e w3 ⟨rfl, b3⟩; have B3 := Lib.hid (bset (bset5 (blw B1.out b3) (Nat.le_refl _) (.string ⟨#[]⟩) (.int .u8 (fn : Int)) (.int .i32 arg) (.string (strOf tgt)) (.string (strOf fr))) (Nat.le_refl _) (j := 0) (.string (strOf Lb))); have X3 := X1.out.below b3; obtain ⟨⟨y0, y1, y2, y3, y4⟩, y5⟩ := box5c X3; obtain ⟨ye, yf, yg, yh, yi⟩ := box5f X3; have Y3 := Lib.hid (box5_set0 (.string (strOf Lb)) (box5_all (.string ⟨#[]⟩) (.int .u8 (fn : Int)) (.int .i32 arg) (.string (strOf tgt)) (.string (strOf fr)) X3)); unfold set5 at B3 Y3; clear X3 b3)
        | (go_at_call 26; refine (C4.out _ B3.out).mono ?_; rintro e w4 ⟨rfl, b4⟩; have B4 := Lib.hid (blw B3.out b4); have Y4 := Lib.hid (Y3.out.below b4); obtain ⟨⟨z0, z1, z2, z3, z4⟩, z5⟩ := box5c Y4.out; obtain ⟨ze, zf, zg, zh, zi⟩ := box5f Y4.out; clear b4))
      have HF5 := Lib.hid (And.intro (box5_all (.string (strOf Lb)) (.int .u8 (fn : Int)) (.int .i32 arg) (.string (strOf tgt)) (.string (strOf fr)) Y4.out) (bset5 B4.out (Nat.le_refl _) (.string (strOf Lb)) (.int .u8 (fn : Int)) (.int .i32 arg) (.string (strOf tgt)) (.string (strOf fr))))
      unfold set5 at HF5
      clear z0 z1 z2 z3 z4 z5 ze zf zg zh zi y0 y1 y2 y3 y4 y5 ye yf yg yh yi B3 Y3 B4 Y4
      generalize (((((w4.setCell ⟨w.heap.size, 0, none⟩ (.string (strOf Lb))).setCell ⟨w.heap.size, 1, none⟩ (.int .u8 (fn : Int))).setCell ⟨w.heap.size, 2, none⟩ (.int .i32 arg)).setCell ⟨w.heap.size, 3, none⟩ (.string (strOf tgt))).setCell ⟨w.heap.size, 4, none⟩ (.string (strOf fr))) = W5 at *
      obtain ⟨⟨z0, z1, z2, z3, z4⟩, z5⟩ := box5c HF5.out.1
      refine bodyPost_ret (v := .tuple #[lnV ⟨Lb, fn, arg, tgt, fr⟩, .bool false]) (by simp [results, Tryd.results30, go_sem, z0, z1, z2, z3, z4] <;> rfl) rfl ?_
      exact ⟨rfl, HF5.out.2⟩
    | false =>
      have h1 := H1.out
      have h2 := H2.out
      rw [hM] at C1 h1 h2
      rw [if_neg (by decide)] at h1 h2
      rw [h1] at C2
      rw [h2] at C4 ⊢
      clear H1 H2 h1 h2 hM HG
      generalize (Lib.cut l [58, 32]).1 = N at *
      generalize (Lib.cut l [58, 32]).2.1 = O at *
      go_enter Tryd.func30, Tryd.ntmps30
      go_wp2_with (first
        | (go_at_call 44; (with_reducible refine (C1.out _ (bal (b0 w) _)).mono ?_); rintro e w1 ⟨rfl, b1⟩; have B1 := Lib.hid (blw (bal (b0 w) _) b1); have X1 := Lib.hid (BoxS.below (boxS_new w _ _) b1); clear b1)
        | (go_at_call 46; (with_reducible refine (C2.out _).mono ?_); rintro e w2 ⟨rfl, rfl⟩)
        | (go_at_call 45; refine (C3.out _ B1.out).mono ?_; rintro e w3 ⟨rfl, b3⟩; have B3 := Lib.hid (bset (bset5 (blw B1.out b3) (Nat.le_refl _) (.string ⟨#[]⟩) (.int .u8 (fn : Int)) (.int .i32 arg) (.string (strOf tgt)) (.string (strOf fr))) (Nat.le_refl _) (j := 0) (.string ⟨#[]⟩)); have X3 := X1.out.below b3; obtain ⟨⟨y0, y1, y2, y3, y4⟩, y5⟩ := box5c X3; obtain ⟨ye, yf, yg, yh, yi⟩ := box5f X3; have Y3 := Lib.hid (box5_set0 (.string ⟨#[]⟩) (box5_all (.string ⟨#[]⟩) (.int .u8 (fn : Int)) (.int .i32 arg) (.string (strOf tgt)) (.string (strOf fr)) X3)); unfold set5 at B3 Y3; clear X3 b3)
        | (go_at_call 26; refine (C4.out _ B3.out).mono ?_; rintro e w4 ⟨rfl, b4⟩; have B4 := Lib.hid (blw B3.out b4); have Y4 := Lib.hid (Y3.out.below b4); obtain ⟨⟨z0, z1, z2, z3, z4⟩, z5⟩ := box5c Y4.out; obtain ⟨ze, zf, zg, zh, zi⟩ := box5f Y4.out; clear b4))
      have HF5 := Lib.hid (And.intro (box5_all (.string ⟨#[]⟩) (.int .u8 (fn : Int)) (.int .i32 arg) (.string (strOf tgt)) (.string (strOf fr)) Y4.out) (bset5 B4.out (Nat.le_refl _) (.string ⟨#[]⟩) (.int .u8 (fn : Int)) (.int .i32 arg) (.string (strOf tgt)) (.string (strOf fr))))
      unfold set5 at HF5
      clear z0 z1 z2 z3 z4 z5 ze zf zg zh zi y0 y1 y2 y3 y4 y5 ye yf yg yh yi B3 Y3 B4 Y4
      generalize (((((w4.setCell ⟨w.heap.size, 0, none⟩ (.string ⟨#[]⟩)).setCell ⟨w.heap.size, 1, none⟩ (.int .u8 (fn : Int))).setCell ⟨w.heap.size, 2, none⟩ (.int .i32 arg)).setCell ⟨w.heap.size, 3, none⟩ (.string (strOf tgt))).setCell ⟨w.heap.size, 4, none⟩ (.string (strOf fr))) = W5 at *
      obtain ⟨⟨z0, z1, z2, z3, z4⟩, z5⟩ := box5c HF5.out.1
      refine bodyPost_ret (v := .tuple #[lnV ⟨[], fn, arg, tgt, fr⟩, .bool false]) (by simp [results, Tryd.results30, go_sem, z0, z1, z2, z3, z4] <;> rfl) rfl ?_
      exact ⟨rfl, HF5.out.2⟩
end Go.Proofs.YtjdjkdgdbdenpaaDoor
/- The reference's small functions on texts. -/
namespace Go.Proofs.YtjdjkdgdbdenpaaDoor
open Go Go.RowKit

theorem upto_at {l : Bs} {c : UInt8} {k : Nat} (hk : k < l.length) (h : ∀ j, j < k → l.getD j 0 ≠ c) (he : l.getD k 0 = c) : upto l c = k := by
  have e : l = l.take k ++ c :: l.drop (k + 1) := by
    conv => lhs; rw [← List.take_append_drop k l, List.drop_eq_getElem_cons hk]
    have : l[k] = c := by rw [← he]; simp [hk]
    rw [this]
  have hn : No c (l.take k) := by
    intro d hd
    obtain ⟨j, hj, rfl⟩ := List.getElem_of_mem hd
    simp only [List.length_take] at hj
    have := h j (by omega)
    rw [List.getElem_take]
    intro e2
    apply this
    simp [show j < l.length by omega, e2]
  have h2 := upto_hit (c := c) (q := l.drop (k + 1)) hn
  rw [← e] at h2
  rw [h2]
  simp; omega
theorem upto_end {l : Bs} {c : UInt8} (h : ∀ j, j < l.length → l.getD j 0 ≠ c) : upto l c = l.length := by
  refine upto_miss fun d hd => ?_
  obtain ⟨j, hj, rfl⟩ := List.getElem_of_mem hd
  have := h j hj
  intro e
  apply this
  simp [hj, e]
theorem upto_le (l : Bs) (c : UInt8) : upto l c ≤ l.length := by
  unfold upto
  exact (List.takeWhile_sublist _).length_le
theorem byte_eq (a c : UInt8) : ((a.toNat : Int) == (c.toNat : Int)) = decide (a = c) := by
  by_cases h : a = c
  · subst h; simp
  · have : a.toNat ≠ c.toNat := fun e => h (UInt8.toNat_inj.1 e)
    rw [decide_eq_false h]
    simp; omega
theorem stepV_dig (c : UInt8) (n : Nat) : stepV 10 c n = if 48 ≤ c.toNat ∧ c.toNat ≤ 57 then 10 * n + (c.toNat - 48) else n := by
  unfold stepV dval
  by_cases h : 48 ≤ c.toNat ∧ c.toNat ≤ 57
  · rw [if_pos h, if_pos h]
    show n * 10 + _ = _
    omega
  · rw [if_neg h, if_neg h, if_neg (by omega)]
theorem red_wrap (v : Int) : wrap32 v = redW v := by unfold wrap32 redW; omega
end Go.Proofs.YtjdjkdgdbdenpaaDoor
