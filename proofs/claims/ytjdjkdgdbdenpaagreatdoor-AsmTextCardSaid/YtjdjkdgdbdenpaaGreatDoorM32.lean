/- The reference's text of lines: the walk. -/
import Derived.WalkMore
import Derived.Test.YtjdjkdgdbdenpaaGreatDoorM31
import Derived.Test.YtjdjkdgdbdenpaaGreatDoorM29
import Derived.Test.YtjdjkdgdbdenpaaGreatDoorM15
import Derived.Test.YtjdjkdgdbdenpaaGreatDoorM16
import Derived.Test.YtjdjkdgdbdenpaaGreatDoorM12
set_option linter.unusedVariables false
set_option linter.unusedSimpArgs false
namespace Go.Proofs.YtjdjkdgdbdenpaaGreatDoor
open Go Go.RowKit

set_option maxRecDepth 100000 in
set_option maxHeartbeats 8000000 in
theorem RText6_any {A : Option Addr} {c m : Nat} {ls : List Ln} {w : World} (R : RL w A c ls) (hm : ls.length = m) (h1 : m ≤ 1000) : Calls Tryz.prog 19 #[.slice A m c] w fun e w' => e = .returned (.tuple #[.string (strOf (textL6 ls)), .int .i64 (textE ls)]) ∧ Below w.heap.size w w' := by
  have HR := Lib.hid R
  have HM := Lib.hid hm
  have CV := Lib.hid (fun (k : Nat) (W : World) => RValid_any (ls.getD k l0) (R.ok.get k) W)
  have CO := Lib.hid (fun (k : Nat) (h : vld (ls.getD k l0) = true) (W : World) => ROne_any (ls.getD k l0) (R.ok.get k) h W)
  have HL := Lib.hid (fun (k : Nat) (h : ∀ j, j < k → vld (ls.getD j l0) = true) (hk : k ≤ m) => Nat.le_trans (txt_le R.ok h (by omega)) (show 150 * k ≤ 150000 by omega))
  have HO := Lib.hid (fun (k : Nat) (h : vld (ls.getD k l0) = true) => one_le (R.ok.get k) h)
  clear R hm
  go_enter Tryz.func19, Tryz.ntmps19
  go_wp2
  go_loopw [4, 5] (fun s i wr => ∃ k : Nat, k ≤ m ∧ i = .int .i64 k ∧ s = .string (strOf (txt (ls.take k))) ∧ Hid (Below w.heap.size w wr ∧ ∀ j, j < k → vld (ls.getD j l0) = true)) (fun _ i _ => m - (intOf i).toNat)
  case atStart => exact ⟨0, Nat.zero_le _, rfl, rfl, Lib.hid ⟨b0 w, fun j hj => absurd hj (by omega)⟩⟩
  case round =>
    obtain ⟨k, hk, rfl, rfl, H⟩ := hrel
    by_cases hlt : (k : Int) < (m : Int)
    · obtain ⟨ad, rfl, c0, c1, c2, c3, c4⟩ := (HR.out.keep H.out.1).rd k (by have := HM.out; omega)
      have C0 := Lib.hid (And.intro c0 (And.intro c1 (And.intro c2 (And.intro c3 c4))))
      have hk0 : (0 : Int) ≤ (k : Int) := by omega
      have C1 := Lib.hid (CV.out k)
      have HV := Lib.hid H.out.2
      have HB := Lib.hid H.out.1
      have hlS := HL.out k H.out.2 hk
      have HS := Lib.hid (txt_snoc (ls := ls) (k := k) (by have := HM.out; omega))
      have HO1 := Lib.hid (HO.out k)
      have CO1 := Lib.hid (CO.out k)
      cases hv : vld (ls.getD k l0) with
      | true =>
        rw [hv] at C1
        have C2 := Lib.hid (CO1.out hv)
        have hlT := HO1.out hv
        have HVk := Lib.hid hv
        clear hv H HO1 CO1
        have hcat := cat_str (txt (ls.take k)) (one (ls.getD k l0)) (by omega)
        clear hlS hlT
        generalize hx : ls.getD k l0 = x at *
        have HX := Lib.hid hx
        clear hx
        generalize hS2 : txt (ls.take k) ++ one x = S2 at *
        generalize one x = T at *
        generalize txt (ls.take k) = S at *
        go_wp2_with (first
          | (go_at_call 27; refine (C1.out _).mono ?_; rintro e w2 ⟨rfl, b2⟩; have B2 := Lib.hid b2; obtain ⟨c0, c1, c2, c3, c4⟩ := C0.out; have c0 := (b2.cell (g_lt c0)).trans c0; have c1 := (b2.cell (g_lt c1)).trans c1; have c2 := (b2.cell (g_lt c2)).trans c2; have c3 := (b2.cell (g_lt c3)).trans c3; have c4 := (b2.cell (g_lt c4)).trans c4; clear b2)
          | (go_at_call 35; refine (C2.out _).mono ?_; rintro e w3 ⟨rfl, b3⟩; have B3 := Lib.hid (blw B2.out b3); clear b3))
        go_roundw
        case rel =>
          refine ⟨k + 1, by omega, by go_num, by rw [HS.out, ← hS2], Lib.hid ⟨blw HB.out B3.out, fun j hj => ?_⟩⟩
          by_cases h : j < k
          · exact HV.out j h
          · rw [show j = k by omega, HX.out]; exact HVk.out
        case measure => simp [intOf]; omega
      | false =>
        rw [hv] at C1
        have hall : ¬ ls.all vld = true := fun h => by have := all_get h (show k < ls.length by have := HM.out; omega); rw [hv] at this; cases this
        have HE := Lib.hid (show textL6 ls = [] ∧ textE ls = 2 from ⟨if_neg hall, if_neg hall⟩)
        clear hv hall H HO1 CO1
        generalize ls.getD k l0 = x at *
        go_wp2_with (go_at_call 27; refine (C1.out _).mono ?_; rintro e w2 ⟨rfl, b2⟩; have B2 := Lib.hid b2; clear b2)
        go_ret2
        rw [HE.out.1, HE.out.2]
        exact ⟨rfl, blw HB.out B2.out⟩
    · obtain rfl : k = m := by omega
      have hall : ls.all vld = true := all_ok (fun j hj => H.out.2 j (by rw [← HM.out]; exact hj))
      have ht : ls.take k = ls := List.take_of_length_le (by rw [HM.out]; exact Nat.le_refl _)
      have HE := Lib.hid (show textL6 ls = txt ls ∧ textE ls = 0 from ⟨if_pos hall, if_pos hall⟩)
      rw [ht]
      have HB := Lib.hid H.out.1
      clear hall ht H
      generalize txt ls = T at *
      go_wp2
      go_ret2
      rw [HE.out.1, HE.out.2]
      exact ⟨rfl, HB.out⟩
end Go.Proofs.YtjdjkdgdbdenpaaGreatDoor
/- What the reference's reader reads can be held in memory. -/
namespace Go.Proofs.YtjdjkdgdbdenpaaGreatDoor
open Go Go.RowKit

theorem numR_word (l : Bs) : isW (numR l) := by
  unfold numR redW isW
  omega
theorem gR0_parts {l : Bs} (hl : l.length ≤ 100000) : (gR0 l).fn < 256 ∧ isW (gR0 l).arg ∧ (gR0 l).tgt.length ≤ 100000 ∧ (gR0 l).fr.length ≤ 100000 := by
  have hn : ∀ k : Bs, (ndF k).toNat < 256 ∧ isW (ndA k) := fun k => by
    have := nd_bd k
    unfold isW
    exact ⟨by omega, by omega, by omega⟩
  unfold gR0
  split
  · exact ⟨(hn _).1, (hn _).2, by simp, by simp⟩
  · split
    · exact ⟨(hn _).1, numR_word _, by simp, by simp⟩
    · exact ⟨(hn _).1, (hn _).2, by simp; omega, by simp; omega⟩
theorem gR_okx {l : Bs} (hl : l.length ≤ 100000) : OKx (gR l) := by
  unfold gR
  split
  · obtain ⟨h1, h2, h3, h4⟩ := gR0_parts (l := l.drop (upto l 58 + 2)) (by simp; omega)
    exact ⟨h1, h2, by show (l.take _).length ≤ maxLen; unfold maxLen; simp; omega, by show _ ≤ maxLen; unfold maxLen; exact Nat.le_trans h3 (by decide), by show _ ≤ maxLen; unfold maxLen; exact Nat.le_trans h4 (by decide)⟩
  · obtain ⟨h1, h2, h3, h4⟩ := gR0_parts hl
    have h5 : (gR0 l).lab = [] := by unfold gR0; split; rfl; split <;> rfl
    exact ⟨h1, h2, by rw [h5]; unfold maxLen; simp, by unfold maxLen; omega, by unfold maxLen; omega⟩
theorem gC_map_okL {ds : List Bs} (h : ∀ d ∈ ds, d.length ≤ 100000) : OKL (ds.map gC) := by
  intro x hx
  obtain ⟨d, hd, rfl⟩ := List.mem_map.1 hx
  exact gC_okx (h d hd)
/-- New lines were made, a number and an error. -/
def GivesLN (w : World) (ls : List Ln) (n er : Int) (e : Ending) (w' : World) : Prop := ∃ A c, e = .returned (.tuple #[.slice A ls.length c, .int .i64 n, .int .i64 er]) ∧ OwnL w' w.heap.size A ls.length c ls ∧ Below w.heap.size w w'
theorem givesLN_no {w : World} {s : Bs} {n : Int} {e : Ending} {w' : World} (he : e = .returned (.tuple #[.slice none 0 0, .int .i64 n, .int .i64 5])) (h : rdL s = [] ∧ rdN s = n ∧ rdE s = 5) (hb : Below w.heap.size w w') : GivesLN w (rdL s) (rdN s) (rdE s) e w' := by
  rw [h.1, h.2.1, h.2.2]
  exact ⟨none, 0, he, ownL_nil _ _, hb⟩
theorem neqS (a b : Bs) : ((strOf a).toList != (strOf b).toList) = !decide (a = b) := by
  show (!((strOf a).toList == (strOf b).toList)) = _
  rw [eqS]
end Go.Proofs.YtjdjkdgdbdenpaaGreatDoor
/- Reading lines: by the program. -/
namespace Go.Proofs.YtjdjkdgdbdenpaaGreatDoor
open Go Go.RowKit Go.Shelf
attribute [local go_sem] Oper.semAt_some

/-- What the loop over the lines keeps: all of them were lines, and the list that has been made. -/
def LM (pre : List (Bs × Nat)) : List Ln := pre.map fun x => gC x.1
def IR (w : World) (pre : List (Bs × Nat)) (W : World) : Prop :=
  ((((∃ A c, Boxed W w.heap.size 22 (.slice A pre.length c) ∧ OwnL W w.heap.size A pre.length c (LM pre)) ∧ Boxed W (w.heap.size + 1) 3 (.int .i64 0)) ∧ Boxed W (w.heap.size + 1 + 1) 27 (.int .i64 0)) ∧ ∀ x ∈ pre, okC x.1 = true) ∧ Below w.heap.size w W
/-- What it leaves at a line that is none. -/
def IY6 (w : World) (co : Code) (pre : List (Bs × Nat)) (W : World) : Prop :=
  (co = .exit 0 ∧ ∃ ini d k, pre = ini ++ [(d, k)] ∧ okC d = false ∧ (∀ x ∈ ini, okC x.1 = true) ∧ Boxed W w.heap.size 22 (.slice none 0 0) ∧ Boxed W (w.heap.size + 1) 3 (.int .i64 ((k : Nat) : Int)) ∧ Boxed W (w.heap.size + 1 + 1) 27 (.int .i64 5)) ∧ Below w.heap.size w W
theorem soft_row {X : World} {base e : Nat} {size k : Nat} {v : Value} {xs : List Value} {r : Nat} (h : X.ownsRow base e size v k xs) (hs : e ≠ 9) (hi : e ≠ 3) (hr : ∃ o, X.heap[r]? = some o ∧ Soft o) : v.ownBlock ≠ some r := by
  rcases h.2 with ⟨rfl, _⟩ | ⟨g, cap, cur, rfl, _, hgb, _⟩
  · simp [Value.ownBlock]
  · intro e'
    obtain rfl : g = r := by simpa [Value.ownBlock] using e'
    obtain ⟨o, ho, hso⟩ := hr
    rw [hgb] at ho
    cases ho
    rcases hso with hso | ⟨u, hso⟩ | ⟨u, hso⟩
    · cases hso
    · injection hso with _ h2 _; exact hs h2
    · injection hso with _ h2 _; exact hi h2
theorem ir_abd {w : World} {ok : Nat → Prop} (h : ∀ r, ok r → w.heap.size + 3 ≤ r) : Abd ok (IR w) := by
  intro s X Y row hs hg hr
  obtain ⟨⟨⟨⟨⟨A, c, hv, ho⟩, h1⟩, h2⟩, h3⟩, h4⟩ := hs
  have far : ∀ B, B < w.heap.size + 3 → some B ≠ row := fun B hB e => by have := h B (hr B e.symm).1; omega
  refine ⟨⟨⟨⟨⟨A, c, hv.kept hg (far _ (by omega)), ?_⟩, h1.kept hg (far _ (by omega))⟩, h2.kept hg (far _ (by omega))⟩, h3⟩, Below.grown h4 hg h4.size (fun k e => by have := h k (hr k e).1; omega)⟩
  cases A with
  | none => exact World.ownsRow.kept ho hg (.inl rfl)
  | some ad =>
    refine World.ownsRow.kept ho hg (.inr fun e => ?_)
    cases row with
    | none => cases e
    | some r => exact soft_row ho (by decide) (by decide) (hr r rfl).2 e
theorem iy_abd {w : World} {ok : Nat → Prop} (h : ∀ r, ok r → w.heap.size + 3 ≤ r) (co : Code) : Abd ok (IY6 w co) := by
  intro s X Y row hs hg hr
  obtain ⟨⟨hc, ini, d, k, e1, e2, e3, e4, e5, e6⟩, h4⟩ := hs
  have far : ∀ B, B < w.heap.size + 3 → some B ≠ row := fun B hB e => by have := h B (hr B e.symm).1; omega
  exact ⟨⟨hc, ini, d, k, e1, e2, e3, e4.kept hg (far _ (by omega)), e5.kept hg (far _ (by omega)), e6.kept hg (far _ (by omega))⟩, Below.grown h4 hg h4.size (fun k e => by have := h k (hr k e).1; omega)⟩
theorem zip_fst (l : List Bs) (i : Nat) : (l.zipIdx i).map (fun x => gC x.1) = l.map gC := by
  induction l generalizing i with
  | nil => rfl
  | cons c cs ih => rw [List.zipIdx_cons, List.map_cons, ih, List.map_cons]
theorem spl_mem {s d : Bs} (h : d ∈ spl s) : d.length ≤ s.length := by
  induction s generalizing d with
  | nil => cases h
  | cons c cs ih =>
    unfold spl at h
    split at h
    · rcases List.mem_cons.1 h with h | h
      · subst h; simp
      · have := ih h; simp only [List.length_cons]; omega
    · split at h
      · rw [List.mem_singleton.1 h]; simp
      · rename_i x t e
        rw [e] at ih
        rcases List.mem_cons.1 h with h | h
        · subst h
          have := ih (List.mem_cons_self ..)
          simp only [List.length_cons]; omega
        · have := ih (List.mem_cons_of_mem _ h)
          simp only [List.length_cons]; omega
theorem zip_mem {s d : Bs} {k : Nat} {pre : List (Bs × Nat)} (h : pre ++ [(d, k)] <+: (spl s).zipIdx 1) : d ∈ spl s ∧ pre.length + 1 ≤ (spl s).length ∧ k = pre.length + 1 ∧ (spl s)[pre.length]? = some d ∧ pre = ((spl s).zipIdx 1).take pre.length := by
  obtain ⟨r, hr⟩ := h
  have e1 : ((spl s).zipIdx 1)[pre.length]? = some (d, k) := by rw [← hr]; simp
  rw [List.getElem?_zipIdx] at e1
  cases e2 : (spl s)[pre.length]? with
  | none => rw [e2] at e1; cases e1
  | some y =>
    rw [e2] at e1
    simp only [Option.map_some, Option.some.injEq, Prod.mk.injEq] at e1
    obtain ⟨rfl, rfl⟩ := e1
    have hlt := (List.getElem?_eq_some_iff.1 e2).1
    refine ⟨List.mem_of_getElem? e2, by omega, by omega, rfl, ?_⟩
    rw [← hr]
    simp
theorem rd_all {s : Bs} (h : ∀ x ∈ (spl s).zipIdx 1, okC x.1 = true) : rdL s = LM ((spl s).zipIdx 1) ∧ rdN s = 0 ∧ rdE s = 0 := by
  have hd : ∀ d ∈ spl s, okC d = true := by
    intro d hd
    obtain ⟨i, hi, rfl⟩ := List.getElem_of_mem hd
    refine h ((spl s)[i], 1 + i) ?_
    rw [List.mem_iff_getElem?]
    exact ⟨i, by rw [List.getElem?_zipIdx]; simp [hi]⟩
  unfold LM
  rw [zip_fst]
  exact rd_end ⟨by simp [spl], hd⟩
theorem rd_stop {s d : Bs} {k : Nat} {ini : List (Bs × Nat)} (h : ini ++ [(d, k)] <+: (spl s).zipIdx 1) (hd : okC d = false) (hi : ∀ x ∈ ini, okC x.1 = true) : rdL s = [] ∧ rdN s = (k : Int) ∧ rdE s = 5 := by
  obtain ⟨_, h2, h3, h4, h5⟩ := zip_mem h
  have hb : badAt (spl s) = some ini.length := by
    unfold badAt
    rw [List.findIdx?_eq_some_iff_getElem]
    have hlt := (List.getElem?_eq_some_iff.1 h4).1
    refine ⟨hlt, by rw [(List.getElem?_eq_some_iff.1 h4).2, hd]; rfl, fun j hj => ?_⟩
    have hm : ((spl s)[j]'(by omega), 1 + j) ∈ ini := by
      obtain ⟨r, hr⟩ := h
      have e1 : ((spl s).zipIdx 1)[j]? = ini[j]? := by
        rw [← hr, List.append_assoc, List.getElem?_append_left hj]
      refine List.mem_of_getElem? (i := j) (e1.symm.trans ?_)
      rw [List.getElem?_zipIdx]
      simp [show j < (spl s).length by omega]
    rw [hi _ hm]
    decide
  unfold rdL rdN rdE
  rw [hb]
  exact ⟨rfl, by rw [h3]; rfl, rfl⟩
/-- The world behind the last statement. -/
theorem read_end {w W : World} {D : Nat} {v : Value} {q e : Value} (hv : Boxed W w.heap.size 22 v) (hq : Boxed W (w.heap.size + 1) 3 q) (he : Boxed W (w.heap.size + 1 + 1) 27 e) (hB : Below w.heap.size w W) (hK : W.heap[D]? = some (.deferred (some []))) (hD : w.heap.size + 4 ≤ D) :
    ((((W.setCell ⟨w.heap.size, 0, none⟩ v).setCell ⟨w.heap.size + 1, 0, none⟩ q).setCell ⟨w.heap.size + 1 + 1, 0, none⟩ e).drew).heap[D]? = some (.deferred (some [])) ∧
    (((((W.setCell ⟨w.heap.size, 0, none⟩ v).setCell ⟨w.heap.size + 1, 0, none⟩ q).setCell ⟨w.heap.size + 1 + 1, 0, none⟩ e).drew).putObj D (.deferred none)).cell? ⟨w.heap.size, 0, none⟩ = some v ∧
    (((((W.setCell ⟨w.heap.size, 0, none⟩ v).setCell ⟨w.heap.size + 1, 0, none⟩ q).setCell ⟨w.heap.size + 1 + 1, 0, none⟩ e).drew).putObj D (.deferred none)).cell? ⟨w.heap.size + 1, 0, none⟩ = some q ∧
    (((((W.setCell ⟨w.heap.size, 0, none⟩ v).setCell ⟨w.heap.size + 1, 0, none⟩ q).setCell ⟨w.heap.size + 1 + 1, 0, none⟩ e).drew).putObj D (.deferred none)).cell? ⟨w.heap.size + 1 + 1, 0, none⟩ = some e ∧
    Below w.heap.size w (((((W.setCell ⟨w.heap.size, 0, none⟩ v).setCell ⟨w.heap.size + 1, 0, none⟩ q).setCell ⟨w.heap.size + 1 + 1, 0, none⟩ e).drew).putObj D (.deferred none)) ∧
    (∀ A n c ls, v = .slice A n c → OwnL W w.heap.size A n c ls → OwnL (((((W.setCell ⟨w.heap.size, 0, none⟩ v).setCell ⟨w.heap.size + 1, 0, none⟩ q).setCell ⟨w.heap.size + 1 + 1, 0, none⟩ e).drew).putObj D (.deferred none)) w.heap.size A n c ls) := by
  have v3 := ((hv.set v).other (B' := w.heap.size + 1) (by omega) q).other (B' := w.heap.size + 1 + 1) (by omega) e
  have q2 := (hq.other (B' := w.heap.size) (by omega) v).set q
  have q3 := q2.other (B' := w.heap.size + 1 + 1) (by omega) e
  have e2 := (he.other (B' := w.heap.size) (by omega) v).other (B' := w.heap.size + 1) (by omega) q
  have e3 := e2.set e
  have k3 := other_set (B' := w.heap.size + 1 + 1) (j := 0) (other_set (B' := w.heap.size + 1) (j := 0) (other_set (B' := w.heap.size) (j := 0) hK (by omega) v) (by omega) q) (by omega) e
  have b3 := bset (j := 0) (bset (j := 0) (bset (j := 0) hB (B := w.heap.size) (Nat.le_refl _) v) (B := w.heap.size + 1) (by omega) q) (B := w.heap.size + 1 + 1) (by omega) e
  have o3 : ∀ A n c ls, v = .slice A n c → OwnL W w.heap.size A n c ls → OwnL (((W.setCell ⟨w.heap.size, 0, none⟩ v).setCell ⟨w.heap.size + 1, 0, none⟩ q).setCell ⟨w.heap.size + 1 + 1, 0, none⟩ e) w.heap.size A n c ls := by
    rintro A n c ls rfl h
    have r1 := World.ownsRow.kept h (grownBy_setCell' W w.heap.size (.slice A n c)) (.inr (hv.not_row (by decide) h).symm)
    have r2 := r1.kept (grownBy_setCell' _ (w.heap.size + 1) q) (.inr ((hq.other (B' := w.heap.size) (by omega) (.slice A n c)).not_row (by decide) r1).symm)
    exact r2.kept (grownBy_setCell' _ (w.heap.size + 1 + 1) e) (.inr (e2.not_row (by decide) r2).symm)
  generalize ((W.setCell ⟨w.heap.size, 0, none⟩ v).setCell ⟨w.heap.size + 1, 0, none⟩ q).setCell ⟨w.heap.size + 1 + 1, 0, none⟩ e = V at *
  have g : ∀ {B : Nat} {t : TypeId} {u : Value}, Boxed V B t u → (V.drew.putObj D (.deferred none)).cell? ⟨B, 0, none⟩ = some u := fun {B t u} h => Boxed.cell (boxed_put (W := V.drew) k3 rfl h)
  refine ⟨k3, g v3, g q3, g e3, b3.drew.trans (belowK_b (w := w) (Nat.le_refl _) _ D _ _ (by omega) k3 rfl rfl), fun A n c ls hv' h => ?_⟩
  exact ownsRow_putObj (World.ownsRow.drew (o3 A n c ls hv' h)) _ k3 rfl
theorem two_at (V : World) {x : Ln} (o : Obj) (hx : OKx x) : RL ((V.alloc o).alloc (.cells #[.string (strOf x.lab), .int .u8 (x.fn : Int), .int .i32 x.arg, .string (strOf x.tgt), .string (strOf x.fr)] 60)) (some ⟨V.heap.size + 1, 0, none⟩) 1 [x] :=
  rl_one hx (by
    have h := boxS_new (V.alloc o) 60 #[.string (strOf x.lab), .int .u8 (x.fn : Int), .int .i32 x.arg, .string (strOf x.tgt), .string (strOf x.fr)]
    rw [World.size_alloc] at h
    exact h)
set_option maxRecDepth 100000 in
set_option maxHeartbeats 4000000 in
theorem ARead_any (s : Bs) (hs : s.length ≤ 100000) (w : World) (hg : Good6 w) : Calls Tryz.prog 20 #[.string (strOf s)] w (GivesLN w (rdL s) (rdN s) (rdE s)) := by
  have HG := Lib.hid hg
  clear hg
  refine (callsIn_wide (n := 3)).1 ?_
  refine callsIn_of_wp_marks Tryz.func20 rfl trivial ?_ rfl
  simp only [Tryz.ntmps20, List.size_toArray, List.length_cons, List.length_nil, Nat.reduceAdd, Nat.reduceSub, Array.replicate_succ, Array.replicate_zero, List.push_toArray, List.append_toArray, List.nil_append, List.cons_append]
  gi_wp2
  refine wpIn_scope ?_
  gi_wp2
  refine wpIn_label ?_
  gi_wp2_with (refine ⟨trivial, ?_⟩; gi_at_call 36; refine (asmLines_in _ _ _).mono ?_; rintro e w' ⟨rfl, rfl⟩)
  obtain ⟨W0, hW0⟩ : ∃ W0, (((w.alloc (.cells #[.slice none 0 0] 22)).alloc (.cells #[.int .i64 0] 3)).alloc (.cells #[.int .i64 0] 27)).alloc (.cells #[.string (strOf s)] 9) = W0 := ⟨_, rfl⟩
  have bL := (((Boxed.new w 22 (.slice none 0 0)).alloc (.cells #[.int .i64 0] 3)).alloc (.cells #[.int .i64 0] 27)).alloc (.cells #[.string (strOf s)] 9)
  have bI := ((Boxed.new (w.alloc (.cells #[.slice none 0 0] 22)) 3 (.int .i64 0)).alloc (.cells #[.int .i64 0] 27)).alloc (.cells #[.string (strOf s)] 9)
  have bE := (Boxed.new ((w.alloc (.cells #[.slice none 0 0] 22)).alloc (.cells #[.int .i64 0] 3)) 27 (.int .i64 0)).alloc (.cells #[.string (strOf s)] 9)
  have bS := Boxed.new (((w.alloc (.cells #[.slice none 0 0] 22)).alloc (.cells #[.int .i64 0] 3)).alloc (.cells #[.int .i64 0] 27)) 9 (.string (strOf s))
  have hB0 : Below w.heap.size w ((((w.alloc (.cells #[.slice none 0 0] 22)).alloc (.cells #[.int .i64 0] 3)).alloc (.cells #[.int .i64 0] 27)).alloc (.cells #[.string (strOf s)] 9)) := bal (bal (bal (bal (b0 w) _) _) _) _
  have hsz : ((((w.alloc (.cells #[.slice none 0 0] 22)).alloc (.cells #[.int .i64 0] 3)).alloc (.cells #[.int .i64 0] 27)).alloc (.cells #[.string (strOf s)] 9)).heap.size = w.heap.size + 4 := by simp
  simp only [World.size_alloc] at bI bE bS
  rw [hW0] at bL bI bE bS hB0 hsz ⊢
  clear hW0
  refine range_soft (own := fun _ => False) (fun _ h => h.elim) (gf := 58) (lb := #[.pointer (some ⟨w.heap.size + 1 + 1 + 1, 0, none⟩)]) rfl (enters_of Tryz.func58 (by kernel_rfl) rfl)
    (asm_lines hs bS) kpL_t (fun V o o' hl ho => ⟨⟨by simp, fun k o1 hk hh _ => (World.putObj_heap_other (by omega)).trans hh⟩, fun B t v _ _ hv => boxed_put hl ho hv⟩) (Below.refl _ _) (fun _ => rfl)
    (IR w) (IY6 w) (ir_abd (fun r h => by rcases h with h | h; exact h.elim; omega)) (fun c => iy_abd (fun r h => by rcases h with h | h; exact h.elim; omega) c)
    ⟨⟨⟨⟨⟨none, 0, bL, ownL_nil _ _⟩, bI⟩, bE⟩, fun _ h => (by cases h)⟩, hB0⟩
    (fun x a' _ => a' = { tmps := #[.string (strOf s), undef, .pointer (some ⟨w.heap.size, 0, none⟩), .pointer (some ⟨w.heap.size + 1, 0, none⟩), .pointer (some ⟨w.heap.size + 1 + 1, 0, none⟩), .int .i64 (x.2 : Int), .string (strOf x.1), undef, undef, .string (strOf s), .func (.func 58) #[] #[.pointer (some ⟨w.heap.size + 1 + 1 + 1, 0, none⟩)], .int .i64 (x.2 : Int), .string (strOf x.1), undef, undef, undef, undef, undef, undef, undef, undef, undef, undef, undef, undef, undef, undef, undef], defers := [] })
    (fun _ _ _ _ _ h _ _ => h) ?assign ?body ?done ?stop
  case assign =>
    rintro l2 pre x V K hI hK
    gi_wp2
    exact hK _ _ (KeepsFrom.refl _ _) ⟨KeepsFrom.refl _ _, fun _ _ _ _ _ h => h⟩ hI rfl
  case body =>
    rintro l2 pre ⟨d, k⟩ a' V ⟨⟨⟨⟨⟨A, c, hL, ho⟩, h1⟩, h2⟩, h3⟩, hB⟩ rfl hsp
    have hzm := zip_mem hsp
    have hdl : d.length ≤ 100000 := Nat.le_trans (spl_mem hzm.1) hs
    have hpl : pre.length ≤ 100000 := by have := spl_len s; have := hzm.2.1; omega
    have CL := Lib.hid (fun (l3 : Nat) => CallsIn.inRound (n := 0) l3 (callsIn_wide.2 (lineOf_any d hdl V (HG.out.below hB))))
    have HI := Lib.hid (And.intro hL (And.intro ho (And.intro h1 (And.intro h2 (And.intro h3 hB)))))
    have HO := Lib.hid (gC_okx hdl)
    have HZ := Lib.hid hsz
    have HLm := Lib.hid (show LM (pre ++ [(d, k)]) = LM pre ++ [gC d] ∧ (pre ++ [(d, k)]).length = pre.length + 1 by simp [LM])
    clear hzm hdl hsp hL ho h1 h2 h3 hB hsz bL bI bE bS hB0 hs
    dsimp only
    cases hok : okC d with
    | true =>
      rw [hok] at CL
      have HK := Lib.hid hok
      clear hok
      generalize hm : pre.length = m at *
      generalize gC d = x at *
      obtain ⟨q0, hi0, hz0, hz1, hz2⟩ := info_parts line_info
      have HM := Lib.hid hm
      clear hm
      obtain ⟨lab, fn, arg, tgt, fr⟩ := x
      gi_wp2_with (first
        | (refine ⟨trivial, rfl, ?_⟩; gi_at_call 37; refine (CL.out _).mono ?_; rintro e V1 ⟨rfl, b1⟩; have hL2 := (HI.out.1.kept (g_of_below b1) (by simp)).alloc (.cells #[.string (strOf lab), .int .u8 (fn : Int), .int .i32 arg, .string (strOf tgt), .string (strOf fr)] 60); have hr2 := Lib.hid (World.ownsRow.alloc (own_keepB HI.out.2.1 b1) (.cells #[.string (strOf lab), .int .u8 (fn : Int), .int .i32 arg, .string (strOf tgt), .string (strOf fr)] 60)); obtain ⟨⟨x0, x1, x2, x3, x4⟩, x5⟩ := box5c (boxS_new V1 60 #[.string (strOf lab), .int .u8 (fn : Int), .int .i32 arg, .string (strOf tgt), .string (strOf fr)]); have c1 := hL2.cell; have f1 := hL2.frozen; have B1 := Lib.hid (And.intro b1 (bal (blw HI.out.2.2.2.2.2 b1) (.cells #[.string (strOf lab), .int .u8 (fn : Int), .int .i32 arg, .string (strOf tgt), .string (strOf fr)] 60))); clear b1)
        | (gi_at_builtin; refine wpListIn_append_own _ rfl _ _ 22 rfl w.heap.size 60 q0 (.agg #[.string ⟨#[]⟩, .int .u8 0, .int .i32 0, .string ⟨#[]⟩, .string ⟨#[]⟩]) 5 56 Tryz.underlying22 hi0 hz0 hz1 hz2 rfl (by decide) _ _ _ rfl (World.ownsRow.alloc hr2.out _) ⟨V1.heap.size + 1, 0, none⟩ 1 1 (lnCs [⟨lab, fn, arg, tgt, fr⟩]) rfl (by rw [lnCs_len]; rfl) (RL.cells (two_at V1 (.cells #[.string (strOf lab), .int .u8 (fn : Int), .int .i32 arg, .string (strOf tgt), .string (strOf fr)] 60) HO.out) rfl) (lnCs_one _) (by unfold maxLen; omega) (by omega) (by have := B1.out.2.size; simp at this; simp; omega) ?_; intro v' w1 hown' hgrow _; obtain ⟨g', cap', rfl⟩ := ownsRow_succ hown'; obtain ⟨hv1, hv2, hr3, hk2, hb2⟩ := hL2.appended (by decide) hr2.out B1.out.2.size (Nat.le_refl _) hown' hgrow; have hc1 := hv1.cell; have hf1 := hv1.frozen))
      have KO : KeepsOthers V (w1.setCell ⟨w.heap.size, 0, none⟩ (.slice (some ⟨g', 0, none⟩) (m + 1) cap')) := ((KeepsOthers.of_grownBy (g_of_below B1.out.1) (fun _ _ e => (by cases e))).trans (KeepsOthers.alloc V1 (.cells #[.string (strOf lab), .int .u8 (fn : Int), .int .i32 arg, .string (strOf tgt), .string (strOf fr)] 60))).trans hk2
      have KB : ∀ B t v, B ≠ w.heap.size → t ≠ 60 → Boxed V B t v → Boxed (w1.setCell ⟨w.heap.size, 0, none⟩ (.slice (some ⟨g', 0, none⟩) (m + 1) cap')) B t v := by
        intro B t v hB ht hv
        have v1 := (hv.kept (g_of_below B1.out.1) (by simp)).alloc (.cells #[.string (strOf lab), .int .u8 (fn : Int), .int .i32 arg, .string (strOf tgt), .string (strOf fr)] 60)
        exact ((v1.alloc _).kept hgrow (v1.not_row ht hr2.out)).other hB _
      refine ⟨⟨KO.from _, KO.from _, fun B t v hB => KB B t v (by have := HZ.out; omega)⟩, ?_⟩
      unfold IR
      rw [HLm.out.1, HLm.out.2]
      refine ⟨⟨⟨⟨⟨_, _, hv2, ?_⟩, KB _ _ _ (by omega) (by decide) HI.out.2.2.1⟩, KB _ _ _ (by omega) (by decide) HI.out.2.2.2.1⟩, fun y hy => ?_⟩, B1.out.2.trans hb2⟩
      · unfold OwnL
        rw [lnCs_app]
        exact hr3
      · rcases List.mem_append.1 hy with hy | hy
        · exact HI.out.2.2.2.2.1 y hy
        · rw [List.mem_singleton.1 hy]; exact HK.out
    | false =>
      rw [hok] at CL
      have HK := Lib.hid hok
      clear hok
      generalize gC d = x at *
      generalize pre.length = m at *
      obtain ⟨lab, fn, arg, tgt, fr⟩ := x
      gi_wp2_with (first
        | (refine ⟨trivial, rfl, ?_⟩; gi_at_call 37; refine (CL.out _).mono ?_; rintro e V1 ⟨rfl, b1⟩; have hL2 := (HI.out.1.kept (g_of_below b1) (by simp)).alloc (.cells #[.string (strOf lab), .int .u8 (fn : Int), .int .i32 arg, .string (strOf tgt), .string (strOf fr)] 60); have hI2 := (HI.out.2.2.1.kept (g_of_below b1) (by simp)).alloc (.cells #[.string (strOf lab), .int .u8 (fn : Int), .int .i32 arg, .string (strOf tgt), .string (strOf fr)] 60); have hE2 := (HI.out.2.2.2.1.kept (g_of_below b1) (by simp)).alloc (.cells #[.string (strOf lab), .int .u8 (fn : Int), .int .i32 arg, .string (strOf tgt), .string (strOf fr)] 60); have c1 := hL2.cell; have f1 := hL2.frozen; have c2 := hI2.cell; have f2 := hI2.frozen; have c3 := hE2.cell; have f3 := hE2.frozen; have B1 := Lib.hid (And.intro b1 (bal (blw HI.out.2.2.2.2.2 b1) (.cells #[.string (strOf lab), .int .u8 (fn : Int), .int .i32 arg, .string (strOf tgt), .string (strOf fr)] 60))); clear b1))
      have KO : KeepsOthers V ((((V1.alloc (.cells #[.string (strOf lab), .int .u8 (fn : Int), .int .i32 arg, .string (strOf tgt), .string (strOf fr)] 60)).setCell ⟨w.heap.size, 0, none⟩ (.slice none 0 0)).setCell ⟨w.heap.size + 1, 0, none⟩ (.int .i64 (k : Int))).setCell ⟨w.heap.size + 1 + 1, 0, none⟩ (.int .i64 5)) := ((((KeepsOthers.of_grownBy (g_of_below B1.out.1) (fun _ _ e => (by cases e))).trans (KeepsOthers.alloc V1 (.cells #[.string (strOf lab), .int .u8 (fn : Int), .int .i32 arg, .string (strOf tgt), .string (strOf fr)] 60))).trans (KeepsOthers.setCell _ _ _)).trans (KeepsOthers.setCell _ _ _)).trans (KeepsOthers.setCell _ _ _)
      refine ⟨⟨KO.from _, KO.from _, fun B t v hB _ hv => ?_⟩, ⟨rfl, pre, d, k, rfl, HK.out, HI.out.2.2.2.2.1, ?_, ?_, ?_⟩, ?_⟩
      · have := HZ.out
        exact ((((hv.kept (g_of_below B1.out.1) (by simp)).alloc (.cells #[.string (strOf lab), .int .u8 (fn : Int), .int .i32 arg, .string (strOf tgt), .string (strOf fr)] 60)).other (by omega) _).other (by omega) _).other (by omega) _
      · exact ((hL2.set _).other (by omega) _).other (by omega) _
      · exact ((hI2.other (by omega) _).set _).other (by omega) _
      · exact ((hE2.other (by omega) _).other (by omega) _).set _
      · exact bset (bset (bset B1.out.2 (Nat.le_refl _) _) (by omega) _) (by omega) _
  case done =>
    rintro D ys V hD rfl ⟨⟨⟨⟨⟨A, c, hL, ho⟩, h1⟩, h2⟩, h3⟩, hB⟩ hK
    obtain ⟨e1, e2, e3⟩ := rd_all h3
    have E := Lib.hid (And.intro e1 (And.intro e2 e3))
    have hf := hL.frozen
    have hc := hL.cell
    have hf1 := h1.frozen
    have hc1 := h1.cell
    have hf2 := h2.frozen
    have hc2 := h2.cell
    obtain ⟨hK', k0, k1, k2, kb, ko⟩ := read_end hL h1 h2 hB hK (by omega)
    have KO := Lib.hid (And.intro (ko _ _ _ _ rfl ho) kb)
    have hlen : (LM ((spl s).zipIdx 1)).length = ((spl s).zipIdx 1).length := by unfold LM; rw [List.length_map]
    have HLn := Lib.hid hlen
    clear e1 e2 e3 h3 hL ho h1 h2 hB hK kb ko hlen
    generalize ((spl s).zipIdx 1).length = m at *
    gi_wp2
    gi_region
    all_goals gi_wp2
    rw [Exit.noGoto_ret]
    refine ⟨by simp, .inl ⟨_, _, rfl, run_takeDeferred hK', ?_⟩⟩
    refine ⟨.tuple #[.slice A m c, .int .i64 0, .int .i64 0], ?_, ?_⟩
    · simp [results, Tryz.f20, go_sem, k0, k1, k2]
    · rw [E.out.1, E.out.2.1, E.out.2.2]
      unfold GivesLN
      rw [HLn.out]
      exact ⟨A, c, rfl, KO.out.1, KO.out.2⟩
  case stop =>
    rintro D co pre V hD hpre ⟨⟨rfl, ini, d, k, rfl, hd, hi, hL, h1, h2⟩, hB⟩ hK
    have E := Lib.hid (rd_stop hpre hd hi)
    have hf := hL.frozen
    have hc := hL.cell
    have hf1 := h1.frozen
    have hc1 := h1.cell
    have hf2 := h2.frozen
    have hc2 := h2.cell
    obtain ⟨hK', k0, k1, k2, kb, _⟩ := read_end hL h1 h2 hB hK (by omega)
    have KB := Lib.hid kb
    clear hpre hd hi hL h1 h2 hB hK kb
    gi_wp2
    gi_region
    all_goals gi_wp2
    rw [Exit.noGoto_ret]
    refine ⟨by simp, .inl ⟨_, _, rfl, run_takeDeferred hK', ?_⟩⟩
    refine ⟨.tuple #[.slice none 0 0, .int .i64 (k : Int), .int .i64 5], ?_, ?_⟩
    · simp [results, Tryz.f20, go_sem, k0, k1, k2]
    · exact givesLN_no rfl E.out KB.out
end Go.Proofs.YtjdjkdgdbdenpaaGreatDoor
/- Parts of a text, for the reference's line. -/
namespace Go.Proofs.YtjdjkdgdbdenpaaGreatDoor
open Go Go.RowKit

theorem sl_to (l : Bs) (k : Nat) (h : k ≤ l.length) (W : World) : (Instr.slice 9 (.string (strOf l)) none (some (.int .i64 (k : Int))) none).run Tryz.prog W = .ok (.string (strOf (l.take k))) W := by
  have hs := size_strOf l
  rw [run_slice_string_to_if W 9 (strOf l) .i64 (k : Int) Tryz.underlying9, if_pos ⟨by omega, by omega⟩, Int.toNat_natCast]
  congr 2
  apply ByteArray.ext
  simp [strOf]
theorem sl_from (l : Bs) (k : Nat) (h : k ≤ l.length) (W : World) : (Instr.slice 9 (.string (strOf l)) (some (.int .i64 (k : Int))) none none).run Tryz.prog W = .ok (.string (strOf (l.drop k))) W := by
  have hs := size_strOf l
  rw [run_slice_string_from_if W 9 (strOf l) .i64 (k : Int) Tryz.underlying9, if_pos ⟨by omega, by omega⟩, Int.toNat_natCast]
  congr 2
  apply ByteArray.ext
  apply Array.ext'
  have h2 : (strOf l).data.toList = l := rfl
  simp only [ByteArray.data_extract, Array.toList_extract, h2, hs]
  simp [strOf, List.extract]
  exact List.take_of_length_le (by simp)
theorem isNum_nil : isNum [] = false := rfl
theorem isNum_of {l : Bs} (h : 0 < l.length) : isNum l = (decide ((l.getD 0 0) = 45) || isDig (l.getD 0 0)) := by
  cases l with
  | nil => cases h
  | cons c cs => rfl
theorem two_boxes (w : World) (a : Value) : BoxS ((w.alloc (.cells #[.string ⟨#[]⟩, .int .u8 0, .int .i32 0, .string ⟨#[]⟩, .string ⟨#[]⟩] 60)).alloc (.cells #[a, .int .u8 0, .int .i32 0, .string ⟨#[]⟩, .string ⟨#[]⟩] 60)) w.heap.size 60 #[.string ⟨#[]⟩, .int .u8 0, .int .i32 0, .string ⟨#[]⟩, .string ⟨#[]⟩] ∧
    BoxS ((w.alloc (.cells #[.string ⟨#[]⟩, .int .u8 0, .int .i32 0, .string ⟨#[]⟩, .string ⟨#[]⟩] 60)).alloc (.cells #[a, .int .u8 0, .int .i32 0, .string ⟨#[]⟩, .string ⟨#[]⟩] 60)) (w.heap.size + 1) 60 #[a, .int .u8 0, .int .i32 0, .string ⟨#[]⟩, .string ⟨#[]⟩] ∧
    Below w.heap.size w ((w.alloc (.cells #[.string ⟨#[]⟩, .int .u8 0, .int .i32 0, .string ⟨#[]⟩, .string ⟨#[]⟩] 60)).alloc (.cells #[a, .int .u8 0, .int .i32 0, .string ⟨#[]⟩, .string ⟨#[]⟩] 60)) := by
  have e : (w.alloc (.cells #[.string ⟨#[]⟩, .int .u8 0, .int .i32 0, .string ⟨#[]⟩, .string ⟨#[]⟩] 60)).heap.size = w.heap.size + 1 := by show (w.heap.push _).size = _; simp
  refine ⟨(boxS_new w _ _).below (bal (b0 _) _), ?_, bal (bal (b0 w) _) _⟩
  rw [← e]
  exact boxS_new _ _ _
theorem y_arg (v : World) {q : Nat} (h : q < v.heap.size) (f : Nat) (a : Int) : ((v.alloc (.cells #[.int .u8 (f : Int), .int .i32 a] 70)).setCell ⟨q, 1, none⟩ (.int .u8 (f : Int))).cell? ⟨v.heap.size, 1, none⟩ = some (.int .i32 a) :=
  (BoxS.cell (boxS_other (boxS_new v 70 #[.int .u8 (f : Int), .int .i32 a]) (Nat.ne_of_gt h) (.int .u8 (f : Int))) 1).trans rfl
end Go.Proofs.YtjdjkdgdbdenpaaGreatDoor
