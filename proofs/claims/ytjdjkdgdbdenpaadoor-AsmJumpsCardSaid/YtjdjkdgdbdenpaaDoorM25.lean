/- Lengths grow as far as operands need it: the walk. -/
import Derived.Test.YtjdjkdgdbdenpaaDoorM24
set_option linter.unusedVariables false
set_option linter.unusedSimpArgs false
namespace Go.Proofs.YtjdjkdgdbdenpaaDoor
open Go Go.RowKit

set_option maxRecDepth 100000 in
set_option maxHeartbeats 8000000 in
theorem lengthen_any {w : World} {B g m M c cs ga ca cn ci : Nat} {A As An Ai : Option Addr} {ls : List Ln} {ns : List Nat} {iz : List C4.II}
    (hp : PBox w g (.slice A m c) (.slice As m cs) (.slice (some ⟨ga, 0, none⟩) M ca) (.slice An m cn) (.slice Ai m ci))
    (R : RL w A c ls) (hR : ∀ ad, A = some ad → 0 < ls.length → ad.block < B) (hs : OwnP w B As m cs (spL ls)) (ha : OwnN w B (some ⟨ga, 0, none⟩) M ca (atE ns)) (hn : OwnN w B An m cn ns) (hi : C4.OwnI w B Ai m ci iz)
    (hm : ls.length = m) (hM : M = m + 1) (h1 : m ≤ 1000) (h8 : ∀ j, ns.getD j 0 ≤ 8) (hv : ls.all vld = true) (hw : ∀ j, j < m → isW (opd ls ns j)) (hk : InsOk ls ns iz) (hsep : ∀ ad, An = some ad → ad.block ≠ ga) (hB : B ≤ w.heap.size) :
    Calls Tryd.prog 34 #[.pointer (some ⟨g, 0, none⟩)] w fun e w' => e = .returned (.bool (decide (stepN ls ns ≠ ns))) ∧ OwnN w' B An m cn (stepN ls ns) ∧ C4.OwnI w' B Ai m ci (insN ls ns) ∧
      Ex w w' (Value.slice An m cn).ownBlock (Value.slice Ai m ci).ownBlock := by
  have HFX := Lib.hid (fun (X : World) (hx : Ex w X (Value.slice An m cn).ownBlock (Value.slice Ai m ci).ownBlock) =>
    And.intro (show PBox X g (.slice A m c) (.slice As m cs) (.slice (some ⟨ga, 0, none⟩) M ca) (.slice An m cn) (.slice Ai m ci) from ex_box hp hx (box_apart hn hp (by decide)) (box_apart hi hp (by decide)))
    (And.intro (show OwnP X B As m cs (spL ls) from ex_own hs hx (own_apart hs hn (by decide)) (own_apart hs hi (by decide)))
    (And.intro (show OwnN X B (some ⟨ga, 0, none⟩) M ca (atE ns) from ex_own ha hx (.inr (by
        cases An with
        | none => simp [Value.ownBlock]
        | some ad =>
          have h2 := hsep ad rfl
          intro e
          rcases hn.2 with ⟨e2, _⟩ | ⟨g3, _, _, e2, _⟩
          · cases e2
          · injection e2 with e2
            injection e2 with e2
            subst e2
            simp [Value.ownBlock] at e
            exact h2 e.symm)) (own_apart ha hi (by decide)))
      (R.keepB (hx.below hB (own_ge hn) (own_ge hi)) hR))))
  have HM := Lib.hid hm
  have HH := Lib.hid (And.intro hM (And.intro (hn.len.trans hm.symm) (And.intro hn hi)))
  have H8 := Lib.hid h8
  have HV := Lib.hid hv
  have HW := Lib.hid hw
  have H0 := Lib.hid (And.intro (Ex.refl w (Value.slice An m cn).ownBlock (Value.slice Ai m ci).ownBlock) (And.intro hn (And.intro hi (lg_start (hn.len.trans hm.symm) hk))))
  obtain ⟨FL, hFL⟩ : ∃ b, decide (stepN ls ns ≠ ns) = b := ⟨_, rfl⟩
  rw [hFL]
  have HFL := Lib.hid hFL
  obtain ⟨⟨p0, p1, p2, p3, p4⟩, pl⟩ := pbox_cells hp
  clear hFL hp R hR hs ha hn hi hm hM h8 hv hw hk hsep hB
  go_enter Tryd.func34, Tryd.ntmps34
  go_wp2
  clear p0 p1 p2 p3 p4
  go_loopw [2, 12] (fun b i wr => ∃ (k : Nat) (gr : Bool), k ≤ m ∧ i = .int .i64 k ∧ b = .bool gr ∧ Hid (Ex w wr (Value.slice An m cn).ownBlock (Value.slice Ai m ci).ownBlock ∧ ∃ nk ik, OwnN wr B An m cn nk ∧ C4.OwnI wr B Ai m ci ik ∧ LgInv ls ns k nk ik gr)) (fun _ i _ => m - (intOf i).toNat)
  case atStart => exact ⟨0, false, Nat.zero_le _, rfl, rfl, Lib.hid ⟨H0.out.1, ns, iz, H0.out.2.1, H0.out.2.2.1, H0.out.2.2.2⟩⟩
  case round =>
    obtain ⟨k, gr, hk, rfl, rfl, H⟩ := hrel
    by_cases hlt : (k : Int) < (m : Int)
    · obtain ⟨hex, nk, ik, hnk, hik, hinv⟩ := H.out
      obtain ⟨gn, cn2, e1, _⟩ := World.ownsRow.form hnk (by omega)
      injection e1 with e1 _ e1'
      subst e1 e1'
      obtain ⟨gi, ci2, e2, _⟩ := World.ownsRow.form hik (by omega)
      injection e2 with e2 _ e2'
      subst e2 e2'
      have oP0 := (HFX.out _ hex).2.1
      obtain ⟨gs, cs2, e3, _⟩ := World.ownsRow.form oP0 (by omega)
      injection e3 with e3 _ e3'
      subst e3 e3'
      clear oP0
      have hkl : k < ls.length := by have := HM.out; omega
      obtain ⟨ad, hA, _, _, c2, _⟩ := (HFX.out _ (hex.trans (Ex.of (bal (b0 wr) (.cells #[.int .i64 (spanF ls k : Int), .int .i64 (spanT ls k : Int)] 100))))).2.2.2.rd k hkl
      subst hA
      obtain ⟨⟨q0, q1, q2, q3, q4⟩, ql⟩ := pbox_cells (HFX.out _ (hex.trans (Ex.of (bal (b0 wr) (.cells #[.int .i64 (spanF ls k : Int), .int .i64 (spanT ls k : Int)] 100))))).1
      have oP := (HFX.out _ hex).2.1
      have spc := sps_at (l := spL ls) (j := k) (by rw [spL_len]; exact hkl)
      rw [spL_at ls hkl] at spc
      have b0' := (World.ownsRow.cellAt oP (k * 2) (by omega)).trans spc.1
      have b1' := (World.ownsRow.cellAt oP (k * 2 + 1) (by omega)).trans spc.2
      have hle := span_le ls hkl
      have hnl := HH.out.2.1
      have hMe := HH.out.1
      have hmm := HM.out
      have oA := (HFX.out _ (hex.trans (Ex.of (bal (b0 wr) (.cells #[.int .i64 (spanF ls k : Int), .int .i64 (spanT ls k : Int)] 100))))).2.2.1
      have aT := (ownN_at oA (k := spanT ls k) (by omega)).1
      have aF := (ownN_at oA (k := spanF ls k) (by omega)).1
      rw [atE_at ns (by omega)] at aT aF
      have bT := adr_le H8.out (spanT ls k)
      have bF := adr_le H8.out (spanF ls k)
      have hop := opd_prog (ns := ns) (all_get HV.out hkl)
      have hwo := HW.out k (by omega)
      unfold isW at hwo
      have t1 : IntKind.i64.wrap ((adr ns (spanT ls k) : Int) - (adr ns (spanF ls k) : Int)) = (adr ns (spanT ls k) : Int) - (adr ns (spanF ls k) : Int) := by rw [IntWalk.i64_in _ (by omega)]
      have t2 : IntKind.i32.wrap ((adr ns (spanT ls k) : Int) - (adr ns (spanF ls k) : Int)) = (adr ns (spanT ls k) : Int) - (adr ns (spanF ls k) : Int) := by rw [IntKind.wrap_i32]; omega
      have t3 : IntKind.i32.wrap ((ls.getD k l0).arg + ((adr ns (spanT ls k) : Int) - (adr ns (spanF ls k) : Int))) = opd ls ns k := by rw [hop, IntKind.wrap_i32]; omega
      have u1 : (0 : Int) ≤ (spanT ls k : Int) := by omega
      have u2 : (spanT ls k : Int) < (M : Int) := by omega
      have u3 : (0 : Int) ≤ (spanF ls k : Int) := by omega
      have u4 : (spanF ls k : Int) < (M : Int) := by omega
      have u5 : (0 : Int) ≤ (k : Int) := by omega
      have HI := Lib.hid (And.intro hnk (And.intro hik hinv))
      have HX := Lib.hid hex
      clear hop hwo bT bF hle hnl hMe hmm oA oP spc hnk hik hinv hex H
      generalize hop : opd ls ns k = op at *
      have HOP := Lib.hid hop
      clear hop
      generalize adr ns (spanT ls k) = ST at *
      generalize adr ns (spanF ls k) = SF at *
      generalize spanT ls k = T1 at *
      generalize spanF ls k = F1 at *
      generalize hxa : (ls.getD k l0).arg = xa at *
      have HKL := Lib.hid hkl
      clear hkl hxa
      go_wp2
      go_quiet (fail)
      have HXW := Lib.hid (And.intro (HX.out.trans (Ex.of (bdrew (bal (b0 wr) (.cells #[.int .i64 (F1 : Int), .int .i64 (T1 : Int)] 100)) nq))) (And.intro (own_keepB HI.out.1 (bdrew (bal (b0 wr) (.cells #[.int .i64 (F1 : Int), .int .i64 (T1 : Int)] 100)) nq)) (own_keepB HI.out.2.1 (bdrew (bal (b0 wr) (.cells #[.int .i64 (F1 : Int), .int .i64 (T1 : Int)] 100)) nq))))
      clear q0 q1 q2 q3 q4 ql b0' b1' aT aF t1 t2 t3 u1 u2 u3 u4 c2
      generalize (wr.alloc (.cells #[.int .i64 (F1 : Int), .int .i64 (T1 : Int)] 100)).drewN nq = W at *
      obtain ⟨⟨q0, q1, q2, q3, q4⟩, ql⟩ := pbox_cells (HFX.out _ HXW.out.1).1
      obtain ⟨⟨i0, i1⟩, if1⟩ := ownI_at HXW.out.2.2 (k := k) (by omega)
      have hi2 := HI.out.2.2.i2 k (Nat.le_refl _) HKL.out
      rw [hi2.1] at i0
      have HF := Lib.hid hi2
      by_cases he : (ik.getD k C4.i0).2 = op
      · have HG := Lib.hid (lg_same HI.out.2.2 HKL.out (by rw [HOP.out]; exact he))
        rw [he] at i1
        have hbe : (op == op) = true := by simp
        clear he hi2
        go_wp2
        go_roundw
        case rel => exact ⟨k + 1, gr, by omega, by go_num, rfl, Lib.hid ⟨HXW.out.1, nk, ik, HXW.out.2.1, HXW.out.2.2, HG.out⟩⟩
        case measure => simp [intOf]; omega
      · have hbe : (op == (ik.getD k C4.i0).2) = false := by simp; exact fun e => he e.symm
        have hne : ¬ op = (ik.getD k C4.i0).2 := fun e => he e.symm
        have st := ownI_store HXW.out.2.2 op hi2.1
        have HST := Lib.hid (And.intro (HXW.out.1.trans (Ex.right st.2)) (And.intro (show OwnN _ B (some ⟨gn, 0, none⟩) m cn nk from own_other HXW.out.2.1 HXW.out.2.2 (by decide) st.2) st.1))
        obtain ⟨⟨r0, r1, r2, r3, r4⟩, rl⟩ := pbox_cells (HFX.out _ HST.out.1).1
        obtain ⟨⟨j0, j1⟩, _⟩ := ownI_at HST.out.2.2 (k := k) (by omega)
        rw [getD_set_eq _ _ _ _ (by rw [HI.out.2.2.li]; exact HKL.out)] at j0 j1
        have CL := Lib.hid (C4.Len_any (ls.getD k l0).fn (v := op) (by have := HW.out k (by omega); rw [HOP.out] at this; exact this))
        have HLn := Lib.hid (show C4.ln (ls.getD k l0).fn op = nd1 ls ns k by unfold nd1; rw [HOP.out])
        have HFY := Lib.hid (fun (X : World) (b : Below (W.setCell ⟨gi, k * 2 + 1, none⟩ (.int .i32 op)).heap.size (W.setCell ⟨gi, k * 2 + 1, none⟩ (.int .i32 op)) X) => And.intro (pbox_cells (HFX.out _ (HST.out.1.trans (Ex.of b))).1) (And.intro (ownN_at (own_keepB HST.out.2.1 b) (k := k) (by omega)) (And.intro (HST.out.1.trans (Ex.of b)) (And.intro (show OwnN X B (some ⟨gn, 0, none⟩) m cn nk from own_keepB HST.out.2.1 b) (show C4.OwnI X B (some ⟨gi, 0, none⟩) m ci _ from own_keepB HST.out.2.2 b)))))
        have hn2 := HI.out.2.2.n2 k (Nat.le_refl _)
        have HL1 := Lib.hid (fun (h : nd1 ls ns k ≤ ns.getD k 0) => lg_ins HI.out.2.2 HKL.out h)
        have HL2 := Lib.hid (fun (h : ns.getD k 0 < nd1 ls ns k) => lg_both HI.out.2.2 HKL.out h)
        rw [HOP.out] at HL1 HL2
        rw [hn2] at HFY
        rw [HLn.out] at CL
        clear he hi2 st hn2
        generalize (ik.getD k C4.i0).2 = a at *
        generalize (ls.getD k l0).fn = f at *
        generalize nd1 ls ns k = L at *
        generalize ns.getD k 0 = v at *
        by_cases hgt : (v : Int) < (L : Int)
        · have HG := Lib.hid (HL2.out (by omega))
          go_wp2_with (go_at_call 33; refine (CL.out _).mono ?_; rintro e w5 ⟨rfl, g5⟩; obtain ⟨⟨⟨y0, y1, y2, y3, y4⟩, yl⟩, ⟨z0, z1⟩, hZ⟩ := HFY.out _ (C4.g_below0 g5); have HZ := Lib.hid hZ; clear g5 hZ)
          go_roundw
          case rel =>
            have st2 := ownN_store HZ.out.2.1 (k := k) L
            exact ⟨k + 1, true, by omega, by go_num, rfl, Lib.hid ⟨HZ.out.1.trans (Ex.left st2.2), _, _, st2.1, own_other HZ.out.2.2 HZ.out.2.1 (by decide) st2.2, HG.out⟩⟩
          case measure => simp [intOf]; omega
        · have HG := Lib.hid (HL1.out (by omega))
          go_wp2_with (go_at_call 33; refine (CL.out _).mono ?_; rintro e w5 ⟨rfl, g5⟩; obtain ⟨⟨⟨y0, y1, y2, y3, y4⟩, yl⟩, ⟨z0, z1⟩, hZ⟩ := HFY.out _ (C4.g_below0 g5); have HZ := Lib.hid hZ; clear g5 hZ)
          go_roundw
          case rel => exact ⟨k + 1, gr, by omega, by go_num, rfl, Lib.hid ⟨HZ.out.1, _, _, HZ.out.2.1, HZ.out.2.2, HG.out⟩⟩
          case measure => simp [intOf]; omega
    · obtain rfl : k = m := by omega
      go_wp2
      go_ret
      obtain ⟨hex, nk, ik, hnk, hik, hinv⟩ := H.out
      have hl := HH.out.2.1
      rw [← HM.out] at hinv
      have e0 := lg_flag hinv hl
      obtain ⟨e1, e2⟩ := lg_end hinv
      subst e1 e2
      exact ⟨by rw [e0, HFL.out]; rfl, hnk, hik, hex⟩
end Go.Proofs.YtjdjkdgdbdenpaaDoor
/- Lengths are settled: what the walk needs. -/
namespace Go.Proofs.YtjdjkdgdbdenpaaDoor
open Go Go.RowKit

/-! ### What the first lengths are, and what rounds make of them -/
def ins0 (ls : List Ln) : List C4.II := (List.range ls.length).map fun j => ((ls.getD j l0).fn, (ls.getD j l0).arg)
def len0 (ls : List Ln) : List Nat := (List.range ls.length).map fun j => C4.ln (ls.getD j l0).fn (ls.getD j l0).arg
theorem ins0_len (ls : List Ln) : (ins0 ls).length = ls.length := by simp [ins0]
theorem len0_len (ls : List Ln) : (len0 ls).length = ls.length := by simp [len0]
theorem ins0_at (ls : List Ln) {j : Nat} (h : j < ls.length) : (ins0 ls).getD j C4.i0 = ((ls.getD j l0).fn, (ls.getD j l0).arg) := by simp [ins0, h]
theorem len0_at (ls : List Ln) {j : Nat} (h : j < ls.length) : (len0 ls).getD j 0 = C4.ln (ls.getD j l0).fn (ls.getD j l0).arg := by simp [len0, h]
theorem getD_out {l : List Nat} {j : Nat} (h : l.length ≤ j) : l.getD j 0 = 0 := by simp [List.getElem?_eq_none h]
theorem low_len0 {ls : List Ln} (F : Fit ls) (ha : ls.all vld = true) : Low ls (len0 ls) := by
  refine ⟨len0_len ls, fun j => ?_, fun j hj => ?_, fun ms hm => ⟨by rw [len0_len, hm.1], fun j => ?_⟩⟩
  · by_cases hj : j < ls.length
    · rw [len0_at ls hj]; exact C4.ln_le _ (F.wd j hj)
    · rw [getD_out (by rw [len0_len]; omega)]; omega
  · rw [len0_at ls hj]; exact ln_pos (F.vl j hj) _
  · by_cases hj : j < ls.length
    · have h1 := hm.2.2 j
      rw [need_at ls ms hj] at h1
      rw [len0_at ls hj]
      refine Nat.le_trans ?_ h1
      unfold nd1
      rcases (vld_parts (all_get ha hj)).2.2 with ⟨h2, _⟩ | ⟨_, _, h3, _⟩
      · unfold opd; rw [if_pos (by rw [h2]; rfl)]; exact Nat.le_refl _
      · rw [h3]; exact ln_up _ (by omega)
    · rw [getD_out (by rw [len0_len]; omega)]; exact Nat.zero_le _
theorem insOk_0 {ls : List Ln} (ok : OKL ls) : InsOk ls (len0 ls) (ins0 ls) :=
  ⟨ins0_len ls, fun j hj => by rw [ins0_at ls hj, len0_at ls hj]; exact ⟨rfl, (ok.get j).arg, Nat.le_refl _⟩⟩
theorem le_step (ls : List Ln) {ns : List Nat} (hl : ns.length = ls.length) : Le ns (stepN ls ns) :=
  ⟨by rw [stepN_len, hl], fun j => by
    by_cases hj : j < ls.length
    · rw [stepN_at ls ns hj]; omega
    · rw [getD_out (l := ns) (by omega)]; exact Nat.zero_le _⟩
theorem low_step {ls : List Ln} (F : Fit ls) {ns : List Nat} (h : Low ls ns) : Low ls (stepN ls ns) := by
  refine ⟨stepN_len ls ns, fun j => ?_, fun j hj => ?_, fun ms hm => ⟨by rw [stepN_len, hm.1], fun j => ?_⟩⟩
  · by_cases hj : j < ls.length
    · rw [stepN_at ls ns hj]
      have h1 := h.le8 j
      have h2 : nd1 ls ns j ≤ 8 := C4.ln_le _ (opd_word F (by omega) h.le8 hj)
      omega
    · rw [getD_out (by rw [stepN_len]; omega)]; omega
  · rw [stepN_at ls ns hj]
    have := h.ge1 j hj
    omega
  · by_cases hj : j < ls.length
    · rw [stepN_at ls ns hj]
      have h1 := (h.min ms hm).2 j
      have h2 := hm.2.2 j
      rw [need_at ls ms hj] at h2
      have h3 := nd1_mono ls (h.min ms hm) j
      omega
    · rw [getD_out (by rw [stepN_len]; omega)]; exact Nat.zero_le _
theorem insOk_step {ls : List Ln} (F : Fit ls) {ns : List Nat} (h : Low ls ns) : InsOk ls (stepN ls ns) (insN ls ns) :=
  ⟨insN_len ls ns, fun j hj => by
    rw [insN_at ls ns hj, stepN_at ls ns hj]
    exact ⟨rfl, opd_word F (by omega) h.le8 hj, Nat.le_max_right _ _⟩⟩
theorem step_fix {ls : List Ln} (F : Fit ls) {ns : List Nat} (h : Low ls ns) (he : stepN ls ns = ns) : ns = lens ls := by
  refine least_of F (low_least h ⟨by rw [need_len, h.len], fun j => ?_⟩)
  by_cases hj : j < ls.length
  · have := stepN_at ls ns hj
    rw [he] at this
    rw [need_at ls ns hj]
    omega
  · rw [need_out ls ns hj]; exact Nat.zero_le _
theorem step_ins_fix {ls : List Ln} (F : Fit ls) {ns : List Nat} (h : Low ls ns) (he : stepN ls ns = ns) : insN ls ns = insL ls := by
  rw [step_fix F h he]; rfl

/-! ### Memory -/
theorem pbox_set3 {W : World} {g : Nat} {a b c d e : Value} (v : Value) (h : PBox W g a b c d e) : PBox (W.setCell ⟨g, 3, none⟩ v) g a b c v e := by
  unfold PBox BoxS at h ⊢
  obtain ⟨hlt, hk⟩ := Array.getElem?_eq_some_iff.1 h
  show (W.heap.modify g _)[g]? = _
  rw [Array.getElem?_eq_getElem (by rw [Array.size_modify]; exact hlt), Array.getElem_modify_self, hk]
  rfl
theorem pbox_set4 {W : World} {g : Nat} {a b c d e : Value} (v : Value) (h : PBox W g a b c d e) : PBox (W.setCell ⟨g, 4, none⟩ v) g a b c d v := by
  unfold PBox BoxS at h ⊢
  obtain ⟨hlt, hk⟩ := Array.getElem?_eq_some_iff.1 h
  show (W.heap.modify g _)[g]? = _
  rw [Array.getElem?_eq_getElem (by rw [Array.size_modify]; exact hlt), Array.getElem_modify_self, hk]
  rfl
theorem set_box {W : World} {g j : Nat} (v : Value) : W.grownBy (W.setCell ⟨g, j, none⟩ v) (some g) :=
  ⟨rfl, rfl, rfl, Nat.le_of_eq (World.size_setCell _ _ _).symm, fun k _ hk => Below.heap_setCell W ⟨g, j, none⟩ v k (fun e => hk (by rw [e]))⟩
def nmz (m : Nat) : Array Value := (nums (List.replicate m 0)).toArray
theorem made_nums (m : Nat) : nmz m = madeCells #[.int .i64 0] (m * 1) := by
  apply Array.ext'
  rw [Nat.mul_one, toList_madeCells_one]
  simp [nmz, nums]
theorem run_mkN (m : Nat) (hm : m ≤ 100000) : ∀ w : World, (Instr.makeSlice 25 (.int .i64 (m : Int)) (.int .i64 (m : Int))).run Tryd.prog w = .ok (.slice (some ⟨w.heap.size, 0, none⟩) m m) (w.alloc (.cells (nmz m) 3)) := fun w => by
  obtain ⟨i0, hi0, hz0, hz1, hz2⟩ := info_parts num_info
  have h := run_make (P := Tryd.prog) w 25 3 i0 (.int .i64 0) Tryd.underlying25 hi0 hz0 .i64 .i64 (m : Int) (m : Int) (by omega) (by omega) (by rw [hz2]; omega) (by omega)
  rw [hz1, Int.toNat_natCast] at h
  rw [h, made_nums]
  rfl
theorem ownN_new {w : World} {B m : Nat} (hB : B ≤ w.heap.size) (hm : m ≤ 100000) : OwnN (w.alloc (.cells (nmz m) 3)) B (some ⟨w.heap.size, 0, none⟩) m m (List.replicate m 0) :=
  ⟨by rw [nums_len, List.length_replicate]; omega, .inr ⟨w.heap.size, m, nmz m, rfl, hB, heap_alloc_new w _, Nat.le_refl _, by unfold maxLen; omega, by simp [nmz, nums_len], by
    show (nums (List.replicate m 0)).take (m * 1) = _
    exact List.take_of_length_le (by rw [nums_len, List.length_replicate]; omega)⟩⟩
theorem rep_zero (m : Nat) : (List.replicate (m + 1) 0).getD 0 0 = 0 := rfl
/-- One instruction appended in a statement whose order is open. -/
theorem step_ins {X : World} {ops : Array Oper} {o : Oper} {a : Act} {K : Act → World → Prop} {Q : Exit → Act → World → Prop} {E : Prop} (hgd : o.guard = none) (s x : Operand)
    (ho : o.op = .call { callee := .builtin .append, args := #[s, x], argTypes := #[55, 55] }) (base n c k f q : Nat) (v : Int) (A : Option Addr) (xs : List C4.II) (hs : a.eval s = .slice A n c) (hx : a.eval x = .slice (some ⟨q, 0, none⟩) 1 k)
    (hown : C4.OwnI X base A n c xs) (hq : X.cell? ⟨q, 0, none⟩ = some (.int .u8 (f : Int)) ∧ X.cell? ⟨q, 1, none⟩ = some (.int .i32 v)) (h63 : n ≤ 1000000) (hbase : base ≤ X.heap.size)
    (h : ∀ A2 c2 w', C4.OwnI w' base A2 (n + 1) c2 (xs ++ [(f, v)]) → X.grownBy w' (Value.slice A n c).ownBlock → K (a.put o.dst (.slice A2 (n + 1) c2)) w') :
    if Region.wanted o (yielded ops a.tmps) = true then Oper.wp Tryd.prog o a X K Q else E := by
  have hw : Region.wanted o (yielded ops a.tmps) = true := by simp [Region.wanted, hgd]
  rw [if_pos hw]
  obtain ⟨i0, hi0, hz0, hz1, hz2⟩ := info_parts C4.ins_info
  obtain ⟨g, cap, w', hr, h1, h2, _⟩ := run_append_lies (P := Tryd.prog) X 55 o.type base 35 i0 (.agg #[.int .u8 0, .int .i32 0]) 2 8 Tryd.underlying55 hi0 hz0 hz1 hz2 rfl (by omega) (.slice A n c) n (C4.is xs) hown ⟨q, 0, none⟩ 1 k [.int .u8 (f : Int), .int .i32 v] rfl
    (by
      intro j u hj
      match j with
      | 0 => simp at hj; subst hj; exact hq.1
      | 1 => simp at hj; subst hj; exact hq.2
      | j + 2 => simp at hj)
    (by
      intro u hu
      simp at hu
      rcases hu with rfl | rfl <;> rfl) (by omega)
    (by unfold maxLen; omega) (by omega) hbase X.heap.size rfl
  unfold Oper.wp execOp
  simp only [ho, resolve, invoke, builtin, Sem.run_bind, Sem.run_pure, Result.andThen_ok, List.map_toArray, List.map_cons, List.map_nil, hs, hx, hr]
  exact h _ _ w' (by unfold C4.OwnI; rw [C4.is_app]; exact h1) h2
theorem cell_new01 {W : World} {u v : Value} {t : TypeId} : (W.alloc (.cells #[u, v] t)).cell? ⟨W.heap.size, 0, none⟩ = some u ∧ (W.alloc (.cells #[u, v] t)).cell? ⟨W.heap.size, 1, none⟩ = some v := by
  have h := boxS_new W t #[u, v]
  exact ⟨(BoxS.cell h 0).trans rfl, (BoxS.cell h 1).trans rfl⟩
/-- The program as its lengths are being settled: n of its lines have been read. -/
structure St (w X : World) (ls : List Ln) (m c : Nat) (A As : Option Addr) (cs g ga n : Nat) (An : Option Addr) (cn : Nat) (Ai : Option Addr) (ci : Nat) (ats ns : List Nat) (iz : List C4.II) : Prop where
  fb : Below w.heap.size w X
  fp : PBox X g (.slice A m c) (.slice As m cs) (.slice (some ⟨ga, 0, none⟩) (m + 1) (m + 1)) (.slice An n cn) (.slice Ai n ci)
  fs : OwnP X w.heap.size As m cs (spL ls)
  fa : OwnN X w.heap.size (some ⟨ga, 0, none⟩) (m + 1) (m + 1) ats
  fn : OwnN X w.heap.size An n cn ns
  fi : C4.OwnI X w.heap.size Ai n ci iz
  fg : w.heap.size ≤ g
  fne : g ≠ ga
  fsep : ∀ ad, An = some ad → ad.block ≠ ga
section
variable {w X Y : World} {ls : List Ln} {m c : Nat} {A As : Option Addr} {cs g ga n : Nat} {An : Option Addr} {cn : Nat} {Ai : Option Addr} {ci : Nat} {ats ns : List Nat} {iz : List C4.II}
theorem St.keep (h : St w X ls m c A As cs g ga n An cn Ai ci ats ns iz) (k : Below X.heap.size X Y) : St w Y ls m c A As cs g ga n An cn Ai ci ats ns iz :=
  ⟨blw h.fb k, ex_box h.fp (Ex.of (a := none) (b := none) k) (by simp) (by simp), own_keepB h.fs k, own_keepB h.fa k, own_keepB h.fn k, own_keepB h.fi k, h.fg, h.fne, h.fsep⟩
theorem own_sep {X : World} {B n cn ga : Nat} {An : Option Addr} {ns : List Nat} (h : OwnN X B An n cn ns) (hs : ∀ ad, An = some ad → ad.block ≠ ga) : (Value.slice An n cn).ownBlock = none ∨ (Value.slice An n cn).ownBlock ≠ some ga := by
  rcases h.2 with ⟨e2, _⟩ | ⟨g3, _, _, e2, _⟩
  · rw [e2]; exact .inl rfl
  · injection e2 with e2
    subst e2
    right
    intro e
    simp [Value.ownBlock] at e
    exact hs _ rfl e
theorem box_other (h : St w X ls m c A As cs g ga n An cn Ai ci ats ns iz) : g ≠ ga ∧ (Value.slice An n cn).ownBlock ≠ some g ∧ (Value.slice Ai n ci).ownBlock ≠ some g ∧ (Value.slice As m cs).ownBlock ≠ some g :=
  ⟨h.fne, fun e => box_apart h.fn h.fp (by decide) e.symm, fun e => box_apart h.fi h.fp (by decide) e.symm, fun e => box_apart h.fs h.fp (by decide) e.symm⟩
theorem St.locate (h : St w X ls m c A As cs g ga m An cn Ai ci ats ns iz) (h1 : m ≤ 1000) (h8 : ∀ j, ns.getD j 0 ≤ 8) (h0 : ats.getD 0 0 = 0) :
    Calls Tryd.prog 35 #[.pointer (some ⟨g, 0, none⟩)] X fun e w' => e = .returned (.bool true) ∧ St w w' ls m c A As cs g ga m An cn Ai ci (atE ns) ns iz := by
  refine (locate_any h.fp h.fa h.fn.rn h.fn.len h1 h8 h.fsep h.fne h0 rfl).mono ?_
  rintro e w' ⟨rfl, o, gr⟩
  have e1 : (Value.slice (some ⟨ga, 0, none⟩) (m + 1) (m + 1)).ownBlock = some ga := rfl
  have ga1 := (h.fa.lt ga rfl).1
  refine ⟨rfl, h.fb.grown gr h.fb.size (fun k hk => by cases hk; exact ga1), pbox_kept h.fp gr (fun e => h.fne (by cases e; rfl)), own_other h.fs h.fa (by decide) gr, o, h.fn.kept gr (own_sep h.fn h.fsep), own_other h.fi h.fa (by decide) gr, h.fg, h.fne, h.fsep⟩
theorem St.lengthen (h : St w X ls m c A As cs g ga m An cn Ai ci (atE ns) ns iz) (R : RL w A c ls) (hR : ∀ ad, A = some ad → 0 < ls.length → ad.block < w.heap.size) (F : Fit ls) (hv : ls.all vld = true) (hm : ls.length = m) (h1 : m ≤ 1000) (L : Low ls ns) (hk : InsOk ls ns iz) :
    Calls Tryd.prog 34 #[.pointer (some ⟨g, 0, none⟩)] X fun e w' => e = .returned (.bool (decide (stepN ls ns ≠ ns))) ∧ St w w' ls m c A As cs g ga m An cn Ai ci (atE ns) (stepN ls ns) (insN ls ns) := by
  refine (lengthen_any h.fp (R.keepB h.fb hR) hR h.fs h.fa h.fn h.fi hm rfl h1 L.le8 hv (fun j hj => opd_word F (by omega) L.le8 (by omega)) hk h.fsep h.fb.size).mono ?_
  rintro e w' ⟨rfl, o1, o2, hx⟩
  obtain ⟨_, q1, q2, _⟩ := box_other h
  exact ⟨rfl, h.fb.trans (hx.below h.fb.size (own_ge h.fn) (own_ge h.fi)), ex_box h.fp hx (fun e => q1 e.symm) (fun e => q2 e.symm), ex_own h.fs hx (own_apart h.fs h.fn (by decide)) (own_apart h.fs h.fi (by decide)),
    ex_own h.fa hx (.inr (fun e => by rcases own_sep h.fn h.fsep with e2 | e2; rw [e2] at e; cases e; exact e2 e.symm)) (own_apart h.fa h.fi (by decide)), o1, o2, h.fg, h.fne, h.fsep⟩
end
/-- The program while its lines are read. -/
structure S1 (w X : World) (ls : List Ln) (m c : Nat) (A As : Option Addr) (cs g ga B kn : Nat) (An : Option Addr) (cn ki : Nat) (Ai : Option Addr) (ci : Nat) : Prop where
  fb : Below w.heap.size w X
  fp : PBox X g (.slice A m c) (.slice As m cs) (.slice (some ⟨ga, 0, none⟩) (m + 1) (m + 1)) (.slice An kn cn) (.slice Ai ki ci)
  fs : OwnP X w.heap.size As m cs (spL ls)
  fa : OwnN X w.heap.size (some ⟨ga, 0, none⟩) (m + 1) (m + 1) (List.replicate (m + 1) 0)
  fn : OwnN X B An kn cn ((len0 ls).take kn)
  fi : C4.OwnI X B Ai ki ci ((ins0 ls).take ki)
  fg : w.heap.size ≤ g
  fne : g ≠ ga
  fB : ga < B
  fw : w.heap.size ≤ B
  fx : B ≤ X.heap.size
section
variable {w X Y : World} {ls : List Ln} {m c : Nat} {A As : Option Addr} {cs g ga B kn : Nat} {An : Option Addr} {cn ki : Nat} {Ai : Option Addr} {ci : Nat}
theorem S1.keep (h : S1 w X ls m c A As cs g ga B kn An cn ki Ai ci) (k : Below X.heap.size X Y) : S1 w Y ls m c A As cs g ga B kn An cn ki Ai ci :=
  ⟨blw h.fb k, ex_box h.fp (Ex.of (a := none) (b := none) k) (by simp) (by simp), own_keepB h.fs k, own_keepB h.fa k, own_keepB h.fn k, own_keepB h.fi k, h.fg, h.fne, h.fB, h.fw, Nat.le_trans h.fx k.size⟩
theorem own_box {W : World} {B n s g j : Nat} {e t : TypeId} {u v : Value} {xs : List Value} {cs : Array Value} (h : W.ownsRow B e s v n xs) (hb : BoxS W g t cs) (hne : e ≠ t) : (W.setCell ⟨g, j, none⟩ u).ownsRow B e s v n xs :=
  h.kept (set_box u) (.inr (fun e2 => box_apart h hb hne e2.symm))
theorem S1.ins (h : S1 w X ls m c A As cs g ga B kn An cn ki Ai ci) (o : Obj) (hk : ki < ls.length) {w3 : World} {A3 : Option Addr} {c3 : Nat} (o3 : C4.OwnI w3 B A3 (ki + 1) c3 ((ins0 ls).take ki ++ [((ls.getD ki l0).fn, (ls.getD ki l0).arg)])) (g3 : (X.alloc o).grownBy w3 (Value.slice Ai ki ci).ownBlock) :
    PBox w3 g (.slice A m c) (.slice As m cs) (.slice (some ⟨ga, 0, none⟩) (m + 1) (m + 1)) (.slice An kn cn) (.slice Ai ki ci) ∧ S1 w (w3.setCell ⟨g, 4, none⟩ (.slice A3 (ki + 1) c3)) ls m c A As cs g ga B kn An cn (ki + 1) A3 c3 := by
  have h1 := h.keep (bal (b0 X) o)
  have hp : PBox w3 g (.slice A m c) (.slice As m cs) (.slice (some ⟨ga, 0, none⟩) (m + 1) (m + 1)) (.slice An kn cn) (.slice Ai ki ci) := pbox_kept h1.fp g3 (fun e => box_apart h1.fi h1.fp (by decide) e.symm)
  have e1 : (ins0 ls).take (ki + 1) = (ins0 ls).take ki ++ [((ls.getD ki l0).fn, (ls.getD ki l0).arg)] := range_snoc (fun j => ((ls.getD j l0).fn, (ls.getD j l0).arg)) hk
  rw [← e1] at o3
  exact ⟨hp, bset (h1.fb.grown g3 h1.fb.size (fun k hk => Nat.le_trans h.fw (own_ge h1.fi k hk))) h.fg _, pbox_set4 _ hp, own_box (own_other h1.fs h1.fi (by decide) g3) hp (by decide), own_box (own_other h1.fa h1.fi (by decide) g3) hp (by decide),
    own_box (own_other h1.fn h1.fi (by decide) g3) hp (by decide), own_box o3 hp (by decide), h.fg, h.fne, h.fB, h.fw, by rw [World.size_setCell]; exact Nat.le_trans h1.fx g3.size⟩
theorem S1.num (h : S1 w X ls m c A As cs g ga B kn An cn ki Ai ci) (o : Obj) (hk : kn < ls.length) {w3 : World} {A3 : Option Addr} {c3 : Nat} (o3 : OwnN w3 B A3 (kn + 1) c3 ((len0 ls).take kn ++ [C4.ln (ls.getD kn l0).fn (ls.getD kn l0).arg])) (g3 : (X.alloc o).grownBy w3 (Value.slice An kn cn).ownBlock) :
    PBox w3 g (.slice A m c) (.slice As m cs) (.slice (some ⟨ga, 0, none⟩) (m + 1) (m + 1)) (.slice An kn cn) (.slice Ai ki ci) ∧ S1 w (w3.setCell ⟨g, 3, none⟩ (.slice A3 (kn + 1) c3)) ls m c A As cs g ga B (kn + 1) A3 c3 ki Ai ci := by
  have h1 := h.keep (bal (b0 X) o)
  have hp : PBox w3 g (.slice A m c) (.slice As m cs) (.slice (some ⟨ga, 0, none⟩) (m + 1) (m + 1)) (.slice An kn cn) (.slice Ai ki ci) := pbox_kept h1.fp g3 (fun e => box_apart h1.fn h1.fp (by decide) e.symm)
  have e1 : (len0 ls).take (kn + 1) = (len0 ls).take kn ++ [C4.ln (ls.getD kn l0).fn (ls.getD kn l0).arg] := range_snoc (fun j => C4.ln (ls.getD j l0).fn (ls.getD j l0).arg) hk
  rw [← e1] at o3
  have hsep : (Value.slice (some ⟨ga, 0, none⟩) (m + 1) (m + 1)).ownBlock = none ∨ (Value.slice (some ⟨ga, 0, none⟩) (m + 1) (m + 1)).ownBlock ≠ (Value.slice An kn cn).ownBlock := .inr (fun e => by have := own_ge h1.fn ga e.symm; have := h.fB; omega)
  exact ⟨hp, bset (h1.fb.grown g3 h1.fb.size (fun k hk => Nat.le_trans h.fw (own_ge h1.fn k hk))) h.fg _, pbox_set3 _ hp, own_box (own_other h1.fs h1.fn (by decide) g3) hp (by decide), own_box (h1.fa.kept g3 hsep) hp (by decide),
    own_box o3 hp (by decide), own_box (own_other h1.fi h1.fn (by decide) g3) hp (by decide), h.fg, h.fne, h.fB, h.fw, by rw [World.size_setCell]; exact Nat.le_trans h1.fx g3.size⟩
theorem own_lower {w' : World} {B B' n s : Nat} {e : TypeId} {v : Value} {xs : List Value} (h : B ≤ B') (o : w'.ownsRow B' e s v n xs) : w'.ownsRow B e s v n xs :=
  ⟨o.1, o.2.imp id (fun ⟨g, cap, cur, h1, h2, h3⟩ => ⟨g, cap, cur, h1, Nat.le_trans h h2, h3⟩)⟩
theorem S1.st (h : S1 w X ls m c A As cs g ga B m An cn m Ai ci) (hm : ls.length = m) : St w X ls m c A As cs g ga m An cn Ai ci (List.replicate (m + 1) 0) (len0 ls) (ins0 ls) := by
  have e1 : (len0 ls).take m = len0 ls := List.take_of_length_le (by rw [len0_len, hm]; exact Nat.le_refl _)
  have e2 : (ins0 ls).take m = ins0 ls := List.take_of_length_le (by rw [ins0_len, hm]; exact Nat.le_refl _)
  have n1 := h.fn
  have i1 := h.fi
  rw [e1] at n1
  rw [e2] at i1
  refine ⟨h.fb, h.fp, h.fs, h.fa, own_lower h.fw n1, own_lower h.fw i1, h.fg, h.fne, fun ad e => ?_⟩
  subst e
  have := own_ge n1 ad.block rfl
  have := h.fB
  omega
end
end Go.Proofs.YtjdjkdgdbdenpaaDoor
