/- The program's checks of a line, and the row that lines make. -/
import Derived.Test.YtkhmpmjonkmbeaaDoorLof
set_option linter.unusedVariables false
set_option linter.unusedSimpArgs false
namespace Go.Proofs.YtkhmpmjonkmbeaaDoor
open Go Go.RowKit L7

/-- Lines that the program keeps: their numbers are bounded. -/
def BdL (ls : List Rw) : Prop := ∀ x ∈ ls, 0 ≤ x.no ∧ x.no ≤ 100000 ∧ 0 ≤ x.dp ∧ x.dp ≤ 100000 ∧ x.tx.length ≤ 100000
theorem BdL.ok {ls : List Rw} (h : BdL ls) : OKL ls := fun x hx => by have := (h x hx).2.2.2.2; unfold OKx maxLen; omega
theorem BdL.app {a b : List Rw} (h : BdL a) (k : BdL b) : BdL (a ++ b) := fun x hx => (List.mem_append.1 hx).elim (h x) (k x)
theorem deep_bd {l : List Rw} (h : ∀ x ∈ l, 0 ≤ x.dp ∧ x.dp ≤ 1000) : 0 ≤ deep l ∧ deep l ≤ 1001 := by
  unfold deep
  by_cases h0 : l.length = 0
  · rw [if_pos h0]; omega
  · rw [if_neg h0]
    have := h _ (getD_mem (rs := l) (j := l.length - 1) (by omega))
    change 0 ≤ (l.getD (l.length - 1) z0).dp ∧ (l.getD (l.length - 1) z0).dp ≤ 1000 at this
    omega
set_option maxRecDepth 100000 in
set_option maxHeartbeats 4000000 in
theorem isIndented_any {A A' : Option Addr} {c c' m k : Nat} {op l : List Rw} (x : Rw) (hx0 : 0 ≤ x.dp) (hx1 : x.dp ≤ 100000) {w : World} (R : RR w A c op) (S : RR w A' c' l) (hm : op.length = m) (hk : l.length = k) (hd : ∀ y ∈ l, 0 ≤ y.dp ∧ y.dp ≤ 1000) :
    Calls Tryd.prog 54 #[rwV x, .slice A m c, .slice A' k c'] w fun e w' => e = .returned (.bool (indOk x op l)) ∧ Below w.heap.size w w' := by
  have hmx : m ≤ maxLen := by have := R.le; have := R.mx; omega
  have hkx : k ≤ maxLen := by have := S.le; have := S.mx; omega
  unfold maxLen at hmx hkx
  obtain ⟨no, dp, tx⟩ := x
  dsimp only at hx0 hx1
  by_cases h0 : m = 0
  · subst h0
    have HS := Lib.hid S
    have CD := Lib.hid (fun (W : World) (b : Below w.heap.size w W) => deepest_any (S.keep b) hk (fun h0 => by
      have := hd _ (getD_mem (rs := l) (j := k - 1) (by omega))
      omega))
    have HE := Lib.hid (show indOk ⟨no, dp, tx⟩ op l = (dp % 2 == 0 && decide (dp / 2 ≤ deep l)) by unfold indOk; rw [if_pos hm])
    have hdb := deep_bd hd
    rw [HE.out]
    generalize deep l = z at *
    clear hm R S hd hk HE
    have bx := Lib.hid (bal (b0 w) (.cells #[.int .i64 no, .int .i64 dp, .string (strOf tx)] 83))
    have CDq := Lib.hid (fun n => (CD.out _ (bdrew bx.out n)).mono (R' := fun e w' => e = .returned (.int .i64 z) ∧ w' = (w.alloc (.cells #[.int .i64 no, .int .i64 dp, .string (strOf tx)] 83)).drewN n) (fun e w' h => ⟨h.1, h.2.symm⟩))
    by_cases h1 : dp % 2 = 0
    · have q1 : (dp % 2 == 0) = true := by simpa using h1
      clear h1
      rw [q1, Bool.true_and]
      go_enter Tryd.func54, Tryd.ntmps54
      go_wp2
      go_quiet ((go_at_call 39; exact Calls.quiet_of_same (CDq.out _)))
      have HW := Lib.hid (bdrew bx.out nq)
      go_wp2
      go_ret
      exact ⟨rfl, HW.out⟩
    · have q1 : (dp % 2 == 0) = false := by simpa using h1
      clear h1
      rw [q1, Bool.false_and]
      go_enter Tryd.func54, Tryd.ntmps54
      go_wp2
      go_quiet (fail)
      have HW := Lib.hid (bdrew bx.out nq)
      go_wp2
      go_ret
      exact ⟨rfl, HW.out⟩
  · obtain ⟨ad, rfl, g0, g1, g2⟩ := R.rd 0 (by omega)
    have HE := Lib.hid (show indOk ⟨no, dp, tx⟩ op l = decide ((op.getD 0 r0).dp ≤ dp) by unfold indOk; rw [if_neg (by omega)]; rfl)
    rw [HE.out]
    rw [Nat.zero_mul] at g0 g1 g2
    have e0 : ad.add 0 = ad := rfl
    rw [e0] at g0 g1 g2
    have hlt := g_lt g0
    have bx := Lib.hid (bal (b0 w) (.cells #[.int .i64 no, .int .i64 dp, .string (strOf tx)] 83))
    have k1 := ((bx.out).cell (p := ⟨ad.block, ad.off + 1, none⟩) hlt).trans g1
    generalize op.getD 0 r0 = y at *
    obtain ⟨n2, d2, t2⟩ := y
    dsimp only at *
    have hm0 : (0 : Int) < (m : Int) := by omega
    clear hm R S hd hk HE h0
    go_enter Tryd.func54, Tryd.ntmps54
    go_wp2
    go_quiet (fail)
    have HW := Lib.hid (bdrew bx.out nq)
    go_wp2
    go_ret
    exact ⟨rfl, HW.out⟩
/-! ### The row of lines -/
theorem run_mkS (m : Nat) (hm : m ≤ 1000000) : ∀ w : World, (Instr.makeSlice 41 (.int .i64 (m : Int)) (.int .i64 (m : Int))).run Tryd.prog w = .ok (.slice (some ⟨w.heap.size, 0, none⟩) m m) (w.alloc (.cells (sC (List.replicate m [])).toArray 9)) := fun w => by
  obtain ⟨i0, hi0, hz0, hz1, hz2⟩ := info_parts str_info
  have h := run_make (P := Tryd.prog) w 41 9 i0 (.string ⟨#[]⟩) Tryd.underlying41 hi0 hz0 .i64 .i64 (m : Int) (m : Int) (by omega) (by omega) (by rw [hz2]; omega) (by omega)
  rw [hz1, Int.toNat_natCast] at h
  have e : (sC (List.replicate m [])).toArray = madeCells #[.string ⟨#[]⟩] (m * 1) := by
    apply Array.ext'
    rw [Nat.mul_one, toList_madeCells_one]
    simp only [sC, List.map_replicate]
    rfl
  rw [h, e]
  rfl
theorem ownS_new {w : World} {B m : Nat} (hB : B ≤ w.heap.size) (hm : m ≤ 1000000) : OwnS (w.alloc (.cells (sC (List.replicate m [])).toArray 9)) B (some ⟨w.heap.size, 0, none⟩) m m (List.replicate m []) :=
  ⟨by rw [sC_len, List.length_replicate]; omega, .inr ⟨w.heap.size, m, _, rfl, hB, heap_alloc_new w _, Nat.le_refl _, by unfold maxLen; omega, by simp [sC_len], by
    show (sC (List.replicate m [])).take (m * 1) = _
    exact List.take_of_length_le (by rw [sC_len, List.length_replicate]; omega)⟩⟩
theorem ownS_store {w : World} {B gn n c k : Nat} {l : List Bs} (h : OwnS w B (some ⟨gn, 0, none⟩) n c l) (v : Bs) :
    OwnS (w.setCell ⟨gn, k, none⟩ (.string (strOf v))) B (some ⟨gn, 0, none⟩) n c (l.set k v) ∧ w.grownBy (w.setCell ⟨gn, k, none⟩ (.string (strOf v))) (some gn) := by
  have := World.ownsRow.stored h k (.string (strOf v))
  unfold OwnS
  rw [sC_set]
  exact this
theorem ownS_at {w : World} {B gn n c k : Nat} {l : List Bs} (h : OwnS w B (some ⟨gn, 0, none⟩) n c l) (hk : k < n) :
    w.cell? ⟨gn, k, none⟩ = some (.string (strOf (l.getD k []))) ∧ w.frozen? ⟨gn, k, none⟩ = false := by
  have hl := OwnS.len h
  exact ⟨(World.ownsRow.cellAt h k (by omega)).trans (sC_at (by omega)), World.ownsRow.frozenAt h k⟩
/-- The first k texts, the rest empty. -/
def mixT (ls : List Rw) (k : Nat) : List Bs := (txs ls).take k ++ List.replicate (ls.length - k) []
theorem mixT_zero (ls : List Rw) : mixT ls 0 = List.replicate ls.length [] := by simp [mixT]
theorem mixT_all (ls : List Rw) : mixT ls ls.length = txs ls := by
  unfold mixT
  rw [Nat.sub_self, List.take_of_length_le (by simp [txs])]
  simp
theorem mixT_set {ls : List Rw} {k : Nat} (hk : k < ls.length) : (mixT ls k).set k (ls.getD k r0).tx = mixT ls (k + 1) := by
  unfold mixT
  have h1 : ((txs ls).take k).length = k := by simp [txs]; omega
  have h2 : ls.length - k = (ls.length - (k + 1)) + 1 := by omega
  rw [List.set_append_right _ _ (by omega), h1, Nat.sub_self, h2, List.replicate_succ, List.set_cons_zero]
  have h3 : (txs ls).take (k + 1) = (txs ls).take k ++ [(ls.getD k r0).tx] := by
    rw [List.take_succ_eq_append_getElem (by simp [txs]; omega)]
    simp [txs, hk]
  rw [h3]
  simp
theorem join_le {ls : List Bs} {q : Nat} (h : ∀ l ∈ ls, l.length ≤ q) : (Lib.join ls [32]).length ≤ ls.length * (q + 1) := by
  induction ls with
  | nil => simp [Lib.join, List.intercalate]
  | cons a ls ih =>
    have h1 := ih (fun l hl => h l (List.mem_cons_of_mem _ hl))
    have h2 := h a (List.mem_cons_self ..)
    cases ls with
    | nil =>
      rw [Lib.join_one]
      simp only [List.length_cons, List.length_nil]
      omega
    | cons b ls =>
      have e : Lib.join (a :: b :: ls) [32] = a ++ 32 :: Lib.join (b :: ls) [32] := by simp [Lib.join, List.intercalate, List.intersperse]
      rw [e]
      simp only [List.length_append, List.length_cons] at h1 ⊢
      rw [Nat.add_mul, Nat.one_mul]
      omega
set_option maxRecDepth 100000 in
set_option maxHeartbeats 8000000 in
theorem joined_any {A : Option Addr} {c m : Nat} {ls : List Rw} {w : World} (R : RR w A c ls) (hb : BdL ls) (hm : ls.length = m) (h0 : 0 < m) (h1 : m ≤ 100000) :
    Calls Tryd.prog 56 #[.slice A m c] w fun e w' => e = .returned (rwV (joinR ls)) ∧ Below w.heap.size w w' := by
  obtain ⟨ad, rfl, g0, g1, g2⟩ := R.rd 0 (by omega)
  rw [Nat.zero_mul] at g0 g1 g2
  have e0 : ad.add 0 = ad := rfl
  rw [e0] at g0 g1 g2
  have HG := Lib.hid (And.intro g0 g1)
  have hlt := g_lt g0
  have HJ := Lib.hid (show joinR ls = ⟨(ls.getD 0 r0).no, (ls.getD 0 r0).dp / 2, Lib.join (txs ls) [32]⟩ from rfl)
  have hbd := hb _ (getD_mem (rs := ls) (j := 0) (by omega))
  have HR := Lib.hid R
  have HM := Lib.hid hm
  have HLen := Lib.hid (show (Lib.join (txs ls) [32]).length ≤ 140737488355328 by
    have := join_le (ls := txs ls) (q := 100000) (fun l hl => by
      unfold txs at hl
      obtain ⟨x, hx, rfl⟩ := List.mem_map.1 hl
      exact (hb x hx).2.2.2.2)
    have h3 : (txs ls).length = m := by unfold txs; rw [List.length_map, hm]
    rw [h3] at this
    have : m * (100000 + 1) ≤ 100000 * (100000 + 1) := Nat.mul_le_mul_right _ h1
    omega)
  have hmk := run_mkS m (by omega)
  have HMix := Lib.hid (show mixT ls 0 = List.replicate m [] by rw [mixT_zero, hm])
  have HMa := Lib.hid (show mixT ls m = txs ls by rw [← hm, mixT_all])
  have HMs := Lib.hid (fun (k : Nat) (hk : k < m) => mixT_set (ls := ls) (k := k) (by omega))
  have HON := Lib.hid (fun (W : World) (hB : w.heap.size ≤ W.heap.size) => ownS_new (w := W) (B := w.heap.size) hB (show m ≤ 1000000 by omega))
  have BX := Lib.hid (boxS_new w 38 #[.int .i64 0, .int .i64 0, .string ⟨#[]⟩])
  generalize (sC (List.replicate m [])).toArray = ZZ at *
  clear R hm g0 g1 g2 hb e0
  go_enter Tryd.func56, Tryd.ntmps56
  go_wp2
  obtain ⟨W1, hW1⟩ : ∃ W1, (w.alloc (.cells #[.int .i64 0, .int .i64 0, .string ⟨#[]⟩] 38)).alloc (.cells ZZ 9) = W1 := ⟨_, rfl⟩
  have o1 := HON.out (w.alloc (.cells #[.int .i64 0, .int .i64 0, .string ⟨#[]⟩] 38)) (by simp)
  have b1 : Below w.heap.size w ((w.alloc (.cells #[.int .i64 0, .int .i64 0, .string ⟨#[]⟩] 38)).alloc (.cells ZZ 9)) := bal (bal (b0 w) _) _
  have x1 := BX.out.alloc (.cells ZZ 9)
  simp only [World.size_alloc] at o1
  rw [hW1] at o1 b1 x1 ⊢
  have O1 := Lib.hid (And.intro b1 (And.intro x1 o1))
  clear hW1 o1 b1 x1 hmk HON BX
  go_loopw [11] (fun i wr => ∃ k : Nat, k ≤ m ∧ i = .int .i64 k ∧ Hid (Below w.heap.size w wr ∧ BoxS wr w.heap.size 38 #[.int .i64 0, .int .i64 0, .string ⟨#[]⟩] ∧ OwnS wr w.heap.size (some ⟨w.heap.size + 1, 0, none⟩) m m (mixT ls k))) (fun i _ => m - (intOf i).toNat)
  case atStart => exact ⟨0, Nat.zero_le _, rfl, Lib.hid ⟨O1.out.1, O1.out.2.1, by rw [HMix.out]; exact O1.out.2.2⟩⟩
  case round =>
    obtain ⟨k, hk, rfl, H⟩ := hrel
    have hk0 : (0 : Int) ≤ (k : Int) := by omega
    by_cases hk1 : (k : Int) < (m : Int)
    · obtain ⟨ad2, e2, q0, q1, q2⟩ := (HR.out.keep H.out.1).rd k (by have := HM.out; omega)
      cases e2
      obtain ⟨r1, r2⟩ := ownS_at H.out.2.2 (k := k) (by omega)
      have hsz : w.heap.size + 1 < wr.heap.size := g_lt r1
      have HX : Hid (∀ o : Obj, Below w.heap.size w ((wr.setCell ⟨w.heap.size + 1, k, none⟩ (.string (strOf (ls.getD k r0).tx))).alloc o) ∧ BoxS ((wr.setCell ⟨w.heap.size + 1, k, none⟩ (.string (strOf (ls.getD k r0).tx))).alloc o) w.heap.size 38 #[.int .i64 0, .int .i64 0, .string ⟨#[]⟩] ∧ OwnS ((wr.setCell ⟨w.heap.size + 1, k, none⟩ (.string (strOf (ls.getD k r0).tx))).alloc o) w.heap.size (some ⟨w.heap.size + 1, 0, none⟩) m m (mixT ls (k + 1))) := Lib.hid fun o => by
        refine ⟨bal (bset H.out.1 (by omega) _) o, (boxS_other H.out.2.1 (by omega) _).alloc o, ?_⟩
        have := (ownS_store H.out.2.2 (k := k) (ls.getD k r0).tx).1
        rw [HMs.out k (by omega)] at this
        exact own_keepB this (bal (b0 _) o)
      clear H
      generalize ls.getD k r0 = x at *
      obtain ⟨no, dp, tx⟩ := x
      dsimp only at *
      go_wp2
      go_roundw
      case rel => exact ⟨k + 1, by omega, by go_num, Lib.hid (HX.out _)⟩
      case measure => simp [intOf]; omega
    · obtain rfl : k = m := by omega
      have g0 := (H.out.1.cell (p := ad) hlt).trans HG.out.1
      have g1 := (H.out.1.cell (p := ⟨ad.block, ad.off + 1, none⟩) hlt).trans HG.out.2
      have CJ := Lib.hid (fun (W : World) (b : Below wr.heap.size wr W) => cJoin (own_keepB H.out.2.2 b) 32 (by omega) (by rw [HMa.out]; exact HLen.out))
      rw [HMa.out] at CJ
      have HB := Lib.hid (And.intro H.out.1 H.out.2.1)
      have hbd1 := hbd.2.2.1
      have hbd2 := hbd.2.2.2.1
      have hk0' : (0 : Int) < (k : Int) := by omega
      generalize ls.getD 0 r0 = x at *
      obtain ⟨no, dp, tx⟩ := x
      dsimp only at *
      generalize Lib.join (txs ls) [32] = J at *
      have D1 := Lib.hid (show Below w.heap.size w wr.drew ∧ BoxS wr.drew w.heap.size 38 #[.int .i64 0, .int .i64 0, .string ⟨#[]⟩] from ⟨bdrew H.out.1 1, H.out.2.1⟩)
      have CJ1 := Lib.hid (CJ.out wr.drew (show Below wr.heap.size wr wr.drew from bdrew (b0 wr) 1))
      have s1 : IntKind.i64.wrap (dp.tdiv 2) = dp / 2 := by rw [Int.tdiv_eq_ediv_of_nonneg (by omega)]; exact IntWalk.i64_in _ (by omega)
      clear H hbd
      go_wp2
      go_region_held3 (fun w' => w'.cell? ad = some (.int .i64 no) ∧ w'.cell? ⟨ad.block, ad.off + 1, none⟩ = some (.int .i64 dp))
        (first | (exact ⟨g0, g1⟩) | (exact ⟨g2, g3⟩) | (exact ⟨g4, g5⟩) | go_keep)
        (first | (go_at_call 23; (with_reducible refine CJ1.out.mono ?_); rintro e w5 ⟨rfl, b5⟩; have B5 := Lib.hid (And.intro (blw D1.out.1 b5) (D1.out.2.below b5)); have g2 := (B5.out.1.cell (p := ad) hlt).trans HG.out.1; have g3 := (B5.out.1.cell (p := ⟨ad.block, ad.off + 1, none⟩) hlt).trans HG.out.2; have g4 := cell_set3 (B := w.heap.size) (.int .i64 no) (.int .i64 (dp / 2)) (.string (strOf J)) g2 (by omega); have g5 := cell_set3 (B := w.heap.size) (.int .i64 no) (.int .i64 (dp / 2)) (.string (strOf J)) g3 (by simp; omega); obtain ⟨⟨y0, y1, y2⟩, y3⟩ := box3 B5.out.2; obtain ⟨f0, f1, f2⟩ := box3f B5.out.2; clear b5))
      all_goals go_wp2
      have HF := Lib.hid (And.intro (box3_all (.int .i64 no) (.int .i64 (dp / 2)) (.string (strOf J)) B5.out.2) (bset3 B5.out.1 (Nat.le_refl _) (.int .i64 no) (.int .i64 (dp / 2)) (.string (strOf J))))
      unfold set3 at HF
      clear g0 g1 g2 g3 g4 g5 y0 y1 y2 y3 f0 f1 f2 s1 B5 D1
      generalize ((w5.setCell ⟨w.heap.size, 0, none⟩ (.int .i64 no)).setCell ⟨w.heap.size, 1, none⟩ (.int .i64 (dp / 2))).setCell ⟨w.heap.size, 2, none⟩ (.string (strOf J)) = W5 at *
      obtain ⟨⟨z0, z1, z2⟩, z5⟩ := box3 HF.out.1
      refine bodyPost_ret (v := rwV ⟨no, dp / 2, J⟩) (by simp [results, Tryd.results56, go_sem, z0, z1, z2]) rfl ⟨?_, HF.out.2⟩
      rw [HJ.out]
end Go.Proofs.YtkhmpmjonkmbeaaDoor
