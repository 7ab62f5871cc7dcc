/- Rows that came in, and the laws' cut of them. -/
import Derived.Test.YtkhmpmjonkmbeaaDoorKit
import Derived.Deep.Slices
import Derived.ChangeSame
set_option linter.unusedVariables false
set_option linter.unusedSimpArgs false
namespace Go.Proofs.YtkhmpmjonkmbeaaDoor
open Go Go.RowKit Go.ChangeShapes Go.WideShapes Go.Deep Go.ChangeAt L7

/-- A slice of rows that came in. -/
def IsRs (w : World) (A : Option Addr) (len cap : Nat) : Prop := ∃ rs : List Rw, rs.length = len ∧ RR w A cap rs
theorem list_ofR {P : Nat → Rw → Prop} (n : Nat) (h : ∀ i, i < n → ∃ x, P i x) : ∃ ls : List Rw, ls.length = n ∧ ∀ i, i < n → P i (ls.getD i r0) := by
  induction n with
  | zero => exact ⟨[], rfl, fun i hi => absurd hi (by omega)⟩
  | succ n ih =>
    obtain ⟨ls, hl, hp⟩ := ih (fun i hi => h i (by omega))
    obtain ⟨x, hx⟩ := h n (by omega)
    refine ⟨ls ++ [x], by simp [hl], fun i hi => ?_⟩
    by_cases hin : i < n
    · have e : (ls ++ [x]).getD i r0 = ls.getD i r0 := by simp [List.getElem?_append_left (show i < ls.length by omega)]
      rw [e]; exact hp i hin
    · obtain rfl : i = n := by omega
      have e : (ls ++ [x]).getD i r0 = x := by simp [← hl]
      rw [e]; exact hx
section
variable {H : Type} {enc : TypeId × Value → H} {w : World}
set_option maxRecDepth 100000 in
theorem open_row {fuel : Nat} {cs : List Value} {x : DataW H × List MemPlace} (h : DataW.trod enc Tryd.prog w 0 (fun _ => true) true fuel 38 cs = some x) : ∃ y : Rw, cs = rwC y ∧ OKx y := by
  obtain ⟨xs, n, _, _, hl, hlen, hf⟩ := DataW.trod_struct Tryd.underlying38 h
  have kl : Tryd.prog.cellsOf 38 = 3 := by kernel_rfl
  have k3 : Tryd.prog.cellsOf 3 = 1 := by kernel_rfl
  have k9 : Tryd.prog.cellsOf 9 = 1 := by kernel_rfl
  rw [kl] at hl
  match cs, hl with
  | [c0, c1, c2], _ =>
    match xs, hlen with
    | [y0, y1, y2], _ =>
      have f0 := hf 0 _ rfl
      have f1 := hf 1 _ rfl
      have f2 := hf 2 _ rfl
      simp [k3, k9] at f0 f1 f2
      obtain ⟨a, e0, _, w0⟩ := DataW.trod_int Tryd.underlying3 f0
      obtain ⟨b, e1, _, w1⟩ := DataW.trod_int Tryd.underlying3 f1
      obtain ⟨s, e2, _, w2⟩ := DataW.trod_string Tryd.underlying9 f2
      injection e0 with e0
      injection e1 with e1
      injection e2 with e2
      subst e0 e1 e2
      refine ⟨⟨a, b, s.data.toList⟩, ?_, ?_⟩
      · unfold rwC
        dsimp only
        rw [← str_self s]
      · simpa [OKx] using w2
theorem open_rows {fuel : Nat} {A : Option Addr} {len cap : Nat} {x : DataW H × List MemPlace} (h : DataW.trod enc Tryd.prog w 0 (fun _ => true) true fuel 22 [.slice A len cap] = some x) : IsRs w A len cap := by
  have kl : Tryd.prog.cellsOf 38 = 3 := by kernel_rfl
  rcases open_slice Tryd.underlying22 h with ⟨e, _⟩ | ⟨a, l, c, m, n, D, Pl, e, _, hl, hm, hmm, _, hi⟩
  · injection e with e _
    injection e with e1 e2 e3
    subst e1 e2 e3
    exact ⟨[], rfl, ⟨Nat.le_refl _, by simp [maxLen], OKL.nil, (fun j h => absurd h (by simp))⟩⟩
  · injection e with e _
    injection e with e1 e2 e3
    subst e1 e2 e3
    obtain ⟨ls, hls, hp⟩ := list_ofR (P := fun i y => OKx y ∧ RwAt w (a.add (i * 3)) y) len (fun i him => by
      obtain ⟨cs, hc, ht⟩ := hi i (by simp at hmm; omega)
      rw [kl] at hc
      obtain ⟨_, hcl, hat⟩ := World.cells?_some hc
      obtain ⟨y, rfl, hy⟩ := open_row ht
      refine ⟨y, hy, ?_⟩
      have hcell : ∀ j, j < 3 → w.cell? ((a.add (i * 3)).add j) = (rwC y)[j]? := fun j hj => hat j hj
      have h0 := hcell 0 (by omega)
      rw [add_add_, Nat.add_zero] at h0
      have hs : ∀ j, j < 2 → w.cell? ⟨(a.add (i * 3)).block, (a.add (i * 3)).off + (j + 1), none⟩ = (rwC y)[j + 1]? := fun j hj => by
        have := hcell (j + 1) (by omega)
        rwa [add_succ_] at this
      exact ⟨h0, hs 0 (by omega), hs 1 (by omega)⟩)
    refine ⟨ls, hls, ⟨by omega, by omega, fun y hy => ?_, fun j hj => ⟨a, rfl, (hp j (by omega)).2⟩⟩⟩
    obtain ⟨i, hi', rfl⟩ := List.getElem_of_mem hy
    have := (hp i (by omega)).1
    have e : ls.getD i r0 = ls[i] := by simp [hi']
    rwa [e] at this
end
/-! ### The cut -/
def cut1 (x : Rw) : Rw := ⟨x.no, x.dp, x.tx.take 300⟩
def cutR (rs : List Rw) : List Rw := (rs.take 60).map cut1
theorem cutR_len (rs : List Rw) : (cutR rs).length ≤ 60 := by unfold cutR; simp; omega
theorem cutR_tx {rs : List Rw} : ∀ x ∈ cutR rs, x.tx.length ≤ 300 := by
  intro x hx
  unfold cutR at hx
  obtain ⟨y, _, rfl⟩ := List.mem_map.1 hx
  show (y.tx.take 300).length ≤ 300
  simp; omega
theorem cutR_ok (rs : List Rw) : OKL (cutR rs) := fun x hx => by
  have := cutR_tx x hx
  unfold OKx maxLen; omega
theorem cut_snoc {rs : List Rw} {k : Nat} (h : k < rs.length) : (rs.take (k + 1)).map cut1 = (rs.take k).map cut1 ++ [cut1 (rs.getD k r0)] := by
  rw [List.take_succ_eq_append_getElem h, List.map_append]
  have : rs.getD k r0 = rs[k] := by simp [h]
  rw [this]
  rfl
theorem cut300 (l : Bs) (W : World) : (Instr.slice 9 (.string (strOf l)) none (some (.int .i64 (min (l.length : Int) 300))) none).run Tryd.prog W = .ok (.string (strOf (l.take 300))) W := by
  by_cases h3 : l.length ≤ 300
  · have e : min (l.length : Int) 300 = (l.length : Int) := by omega
    rw [e, cut_to l l.length (Nat.le_refl _) W, List.take_length, List.take_of_length_le h3]
  · have e : min (l.length : Int) 300 = ((300 : Nat) : Int) := by omega
    rw [e, cut_to l 300 (by omega) W]
theorem extract_to (l : Bs) (k : Nat) : (strOf l).extract 0 k = strOf (l.take k) := by
  apply ByteArray.ext
  simp [strOf]
theorem min_cut (l : Bs) : ((300 : Int) < (l.length : Int) ∧ (strOf l).extract 0 300 = strOf (l.take 300) ∧ ∀ W : World, (Instr.slice 9 (.string (strOf l)) none (some (.int .i64 300)) none).run Tryd.prog W = .ok (.string (strOf (l.take 300))) W) ∨
    (¬ (300 : Int) < (l.length : Int) ∧ (strOf l).extract 0 l.length = strOf (l.take 300) ∧ ∀ W : World, (Instr.slice 9 (.string (strOf l)) none (some (.int .i64 (l.length : Int))) none).run Tryd.prog W = .ok (.string (strOf (l.take 300))) W) := by
  by_cases h : (300 : Int) < (l.length : Int)
  · exact .inl ⟨h, extract_to l 300, fun W => cut_to l 300 (by omega) W⟩
  · have e : l.take 300 = l.take l.length := by rw [List.take_length, List.take_of_length_le (by omega)]
    exact .inr ⟨h, by rw [extract_to, e], fun W => by rw [cut_to l l.length (Nat.le_refl _) W, e]⟩
set_option maxRecDepth 100000 in
set_option maxHeartbeats 4000000 in
theorem cut_any {A : Option Addr} {c m : Nat} {rs : List Rw} {w : World} (R : RR w A c rs) (hm : rs.length = m) : Calls Tryd.prog 14 #[.slice A m c] w fun e w' => ∃ A2 n2 c2, e = .returned (.slice A2 n2 c2) ∧ OwnR w' 38 w.heap.size A2 n2 c2 (cutR rs) ∧ Below w.heap.size w w' := by
  have HR := Lib.hid R
  have HM := Lib.hid hm
  have hmx : m ≤ maxLen := by have := R.le; have := R.mx; omega
  unfold maxLen at hmx
  clear R hm
  go_enter Tryd.func14, Tryd.ntmps14
  go_wp2
  go_loopw [3, 4] (fun v i wr => ∃ k c2 : Nat, ∃ A2, k ≤ m ∧ k ≤ 60 ∧ i = .int .i64 k ∧ v = .slice A2 k c2 ∧ Hid (Below w.heap.size w wr ∧ OwnR wr 38 w.heap.size A2 k c2 ((rs.take k).map cut1))) (fun _ i _ => m - (intOf i).toNat)
  case atStart => exact ⟨0, 0, none, Nat.zero_le _, by omega, rfl, rfl, Lib.hid ⟨b0 w, ownR_nil w _ _⟩⟩
  case round =>
    obtain ⟨k, c2, A2, hk, hk6, rfl, rfl, H⟩ := hrel
    have hk0 : (0 : Int) ≤ (k : Int) := by omega
    by_cases hk1 : (k : Int) < (m : Int)
    · by_cases hk2 : (k : Int) < 60
      · have q2 : decide ((k : Int) < 60) = true := decide_eq_true hk2
        obtain ⟨ad, rfl, g0, g1, g2⟩ := (HR.out.keep H.out.1).rd k (by have := HM.out; omega)
        have HS := Lib.hid (cut_snoc (rs := rs) (k := k) (by have := HM.out; omega))
        have hok := HR.out.ok.get k
        generalize rs.getD k r0 = x at *
        obtain ⟨no, dp, tx⟩ := x
        unfold OKx maxLen at hok
        dsimp only at *
        have hz := size_strOf tx
        have hc := min_cut tx
        obtain ⟨tz, htz⟩ : ∃ tz, tx.take 300 = tz := ⟨_, rfl⟩
        have htl : tz.length ≤ 300 := by rw [← htz]; simp; omega
        have e1 : cut1 ⟨no, dp, tx⟩ = ⟨no, dp, tz⟩ := by unfold cut1; rw [htz]
        rw [htz] at hc
        rw [e1] at HS
        have r1 := rr_one (w := (wr.alloc (.cells #[.int .i64 no, .int .i64 dp, .string (strOf tz)] 38)).alloc (.cells #[.int .i64 no, .int .i64 dp, .string (strOf tz)] 38)) (e := 38) (q := (wr.alloc (.cells #[.int .i64 no, .int .i64 dp, .string (strOf tz)] 38)).heap.size) (x := ⟨no, dp, tz⟩) (by unfold OKx maxLen; show tz.length ≤ _; omega) (boxS_new _ _ _)
        rw [World.size_alloc] at r1
        have R1 := Lib.hid r1
        clear r1
        have HB := Lib.hid (And.intro (bal H.out.1 (.cells #[.int .i64 no, .int .i64 dp, .string (strOf tz)] 38)) (H.out.2.keep (bal (b0 wr) (.cells #[.int .i64 no, .int .i64 dp, .string (strOf tz)] 38))))
        clear H e1 htz
        generalize strOf tz = sz at *
        rcases hc with ⟨c1, c2', c3'⟩ | ⟨c1, c2', c3'⟩
        all_goals (
          go_wp2_with (at_builtin; (refine app_rws rfl (.tmp 28) (.tmp 30) rfl w.heap.size k c2 1 1 (k + 1) _ (some ⟨wr.heap.size + 1, 0, none⟩) ((rs.take k).map cut1) [⟨no, dp, tz⟩] rfl rfl (own_keepB HB.out.2 (bal (b0 _) _)) rfl R1.out rfl (by omega) (bal HB.out.1 _).size ?_; intro A3 c3 w5 o2 g2; have H5 := Lib.hid (And.intro (bgrow (bal HB.out.1 _) (own_keepB HB.out.2 (bal (b0 _) _)) (Nat.le_refl _) g2) o2); clear o2 g2))
          go_roundw
          case rel => exact ⟨k + 1, c3, A3, by omega, by omega, by go_num, rfl, Lib.hid ⟨H5.out.1, by rw [HS.out]; exact H5.out.2⟩⟩
          case measure => simp [intOf]; omega)
      · have q2 : decide ((k : Int) < 60) = false := decide_eq_false hk2
        obtain rfl : k = 60 := by omega
        have HB := Lib.hid H.out
        clear H
        go_wp2
        go_ret
        exact ⟨_, _, _, rfl, HB.out.2, HB.out.1⟩
    · obtain rfl : k = m := by omega
      have HB := Lib.hid (show OwnR wr 38 w.heap.size A2 k c2 (cutR rs) ∧ Below w.heap.size w wr from ⟨by
        have h := H.out.2
        rw [List.take_of_length_le (by have := HM.out; omega)] at h
        unfold cutR
        rw [List.take_of_length_le (by have := HM.out; omega)]
        exact h, H.out.1⟩)
      clear H
      go_wp2
      go_ret
      exact ⟨_, _, _, rfl, HB.out.1, HB.out.2⟩
end Go.Proofs.YtkhmpmjonkmbeaaDoor
