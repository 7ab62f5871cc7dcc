/- Spans: from which line an operand is counted, and to which. -/
import Derived.Test.YtjdjkdgdbdenpaaDoorM22
set_option linter.unusedVariables false
set_option linter.unusedSimpArgs false
namespace Go.Proofs.YtjdjkdgdbdenpaaDoor
open Go Go.RowKit Go.Maps

def spanOk (ls : List Ln) (i : Nat) : Bool := (ls.getD i l0).tgt.isEmpty || ((fnd ls (ls.getD i l0).tgt).isSome && ((ls.getD i l0).fr.isEmpty || (fnd ls (ls.getD i l0).fr).isSome))
def spanF (ls : List Ln) (i : Nat) : Nat := if (ls.getD i l0).tgt.isEmpty then 0 else fromL ls i
def spanT (ls : List Ln) (i : Nat) : Nat := if (ls.getD i l0).tgt.isEmpty then 0 else toL ls i
/-- What is returned of line i. -/
def SpanIs (w : World) (ls : List Ln) (i : Nat) (e : Ending) (w' : World) : Prop :=
  ∃ a b : Nat, e = .returned (.tuple #[.agg #[.int .i64 (a : Int), .int .i64 (b : Int)], .bool (spanOk ls i)]) ∧ (spanOk ls i = true → a = spanF ls i ∧ b = spanT ls i) ∧ Below w.heap.size w w'
theorem map_below {w W : World} {b n : Nat} {D : DataW Unit} (h : w.ownsMap Tryd.prog 9 (plainElem Tryd.prog 3) b n D) (hb : Below w.heap.size w W) : W.ownsMap Tryd.prog 9 (plainElem Tryd.prog 3) b n D := h.kept (g_of_below hb) (by simp)
theorem num_of {D : DataW Unit} {k : Lit} {i : Nat} {c : Int} (h : D.atKey k (.lit (.int .i64 0)) = num i) (h' : D.atKey k (.lit (.int .i64 0)) = .lit (.int .i64 c)) : c = (i : Int) := by
  have := h'.symm.trans h
  injection this with this
  injection this
theorem span_end {w : World} {ls : List Ln} {i : Nat} {e : Ending} {w' : World} {a b : Nat} {ok : Bool} (he : e = .returned (.tuple #[.agg #[.int .i64 (a : Int), .int .i64 (b : Int)], .bool ok])) (h1 : spanOk ls i = ok) (h2 : ok = true → a = spanF ls i ∧ b = spanT ls i) (hb : Below w.heap.size w w') : SpanIs w ls i e w' :=
  ⟨a, b, by rw [h1]; exact he, by rw [h1]; exact h2, hb⟩
theorem ne_nil {n : Bs} (h : n.isEmpty = false) : n ≠ [] := by rintro rfl; cases h
set_option maxRecDepth 100000 in
set_option maxHeartbeats 4000000 in
theorem spanOf_any {b n : Nat} {D : DataW Unit} {ls : List Ln} {w : World} (ho : w.ownsMap Tryd.prog 9 (plainElem Tryd.prog 3) b n D) (hr : MR D ls) (i : Nat) (hi : i ≤ 100000) (hx : OKx (ls.getD i l0)) :
    Calls Tryd.prog 48 #[lnV (ls.getD i l0), .int .i64 (i : Int), .map (some b)] w (SpanIs w ls i) := by
  have HO := Lib.hid ho
  have k1 := strOf_empty (ls.getD i l0).tgt
  have k2 := strOf_empty (ls.getD i l0).fr
  have KT := Lib.hid (key_of hx.tgt)
  have KF := Lib.hid (key_of hx.fr)
  cases ht : (ls.getD i l0).tgt.isEmpty with
  | true =>
    rw [ht] at k1
    have E := Lib.hid (show spanOk ls i = true ∧ spanF ls i = 0 ∧ spanT ls i = 0 by unfold spanOk spanF spanT; rw [ht]; simp)
    clear ho hr hx ht
    generalize ls.getD i l0 = x at *
    go_enter Tryd.func48, Tryd.ntmps48
    go_wp2
    refine bodyPost_ret (v := .tuple #[.agg #[.int .i64 0, .int .i64 0], .bool true]) (by simp [results, Tryd.results48, go_sem]) rfl ?_
    exact span_end (a := 0) (b := 0) rfl E.out.1 (fun _ => ⟨E.out.2.1.symm, E.out.2.2.symm⟩) (bal (bal (b0 w) _) _)
  | false =>
    rw [ht] at k1
    obtain ⟨hh1, ha1⟩ := hr.2 _ (ne_nil ht)
    cases hf1 : fnd ls (ls.getD i l0).tgt with
    | none =>
      rw [hf1] at hh1
      have E := Lib.hid (show spanOk ls i = false by unfold spanOk; rw [ht, hf1]; rfl)
      have hb1 : Maps.has D (.string (ls.getD i l0).tgt) = false := hh1
      have hz := Lib.hid (atKey_of_not_has hb1 (.lit (.int .i64 0)))
      clear ho hr hx ht ha1 hf1 hh1
      generalize ls.getD i l0 = x at *
      go_enter Tryd.func48, Tryd.ntmps48
      go_wp2_with (at_lookup; refine wpList_lookup_own_ok_int _ rfl _ _ 96 rfl 9 3 .i64 mapLaw Tryd.underlying96 Tryd.underlying3 (Tryd.zeroValue3 _) b n D rfl (map_below HO.out (bal (bal (b0 w) _) _)) _ (.string x.tgt) rfl KT.out ?_; intro cc hat hwc; obtain rfl : cc = ((0 : Nat) : Int) := num_of (i := 0) hz.out hat; clear hat hwc; rw [hb1])
      refine bodyPost_ret (v := .tuple #[.agg #[.int .i64 0, .int .i64 0], .bool false]) (by simp [results, Tryd.results48, go_sem]) rfl ?_
      exact span_end (a := 0) (b := 0) rfl E.out (fun h => by cases h) (bal (bal (b0 w) _) _)
    | some kt =>
      rw [hf1] at hh1
      have hz1 := Lib.hid (ha1 kt hf1)
      have hb1 : Maps.has D (.string (ls.getD i l0).tgt) = true := hh1
      have hT : toL ls i = kt := (pos_hit hf1).1
      cases hfe : (ls.getD i l0).fr.isEmpty with
      | true =>
        rw [hfe] at k2
        have E := Lib.hid (show spanOk ls i = true ∧ spanF ls i = i + 1 ∧ spanT ls i = kt by unfold spanOk spanF spanT fromL; rw [ht, hf1, hfe, hT]; simp)
        clear ho hr hx ht ha1 hf1 hh1 hT hfe
        generalize ls.getD i l0 = x at *
        go_enter Tryd.func48, Tryd.ntmps48
        go_wp2_with (at_lookup; refine wpList_lookup_own_ok_int _ rfl _ _ 96 rfl 9 3 .i64 mapLaw Tryd.underlying96 Tryd.underlying3 (Tryd.zeroValue3 _) b n D rfl (map_below HO.out (bal (bal (b0 w) _) _)) _ (.string x.tgt) rfl KT.out ?_; intro cc hat hwc; obtain rfl : cc = (kt : Int) := num_of hz1.out hat; clear hat hwc; rw [hb1])
        refine bodyPost_ret (v := .tuple #[.agg #[.int .i64 ((i + 1 : Nat) : Int), .int .i64 (kt : Int)], .bool true]) (by simp [results, Tryd.results48, go_sem]) rfl ?_
        exact span_end rfl E.out.1 (fun _ => ⟨E.out.2.1.symm, E.out.2.2.symm⟩) (bal (bal (b0 w) _) _)
      | false =>
        rw [hfe] at k2
        obtain ⟨hh2, ha2⟩ := hr.2 _ (ne_nil hfe)
        obtain ⟨q, kf, hq, hzf, hE⟩ : ∃ (q : Bool) (kf : Nat), Maps.has D (.string (ls.getD i l0).fr) = q ∧ D.atKey (.string (ls.getD i l0).fr) (.lit (.int .i64 0)) = num kf ∧ spanOk ls i = q ∧ (q = true → kf = spanF ls i ∧ kt = spanT ls i) := by
          cases hf2 : fnd ls (ls.getD i l0).fr with
          | none =>
            rw [hf2] at hh2
            exact ⟨false, 0, hh2, atKey_of_not_has hh2 _, by unfold spanOk; rw [ht, hf1, hfe, hf2]; rfl, fun h => by cases h⟩
          | some kf =>
            rw [hf2] at hh2
            exact ⟨true, kf, hh2, ha2 kf hf2, by unfold spanOk; rw [ht, hf1, hfe, hf2]; rfl, fun _ => by unfold spanF spanT fromL; rw [ht, hfe, hT, (pos_hit hf2).1]; simp⟩
        have HE := Lib.hid hE
        have HZ := Lib.hid hzf
        clear ho hr hx ht ha1 hf1 hh1 hT hfe hh2 ha2 hE hzf
        generalize ls.getD i l0 = x at *
        go_enter Tryd.func48, Tryd.ntmps48
        go_wp2_with (first
          | (at_lookup; (with_reducible refine wpList_lookup_own_ok_int _ rfl _ _ 96 rfl 9 3 .i64 mapLaw Tryd.underlying96 Tryd.underlying3 (Tryd.zeroValue3 _) b n D rfl (map_below HO.out (bal (bal (b0 w) _) _)) (.string (strOf x.tgt)) (.string x.tgt) rfl KT.out ?_); intro cc hat hwc; obtain rfl : cc = (kt : Int) := num_of hz1.out hat; clear hat hwc; rw [hb1])
          | (at_lookup; (with_reducible refine wpList_lookup_own_ok_int _ rfl _ _ 96 rfl 9 3 .i64 mapLaw Tryd.underlying96 Tryd.underlying3 (Tryd.zeroValue3 _) b n D rfl (map_below HO.out (bal (bal (b0 w) _) _)) (.string (strOf x.fr)) (.string x.fr) rfl KF.out ?_); intro cc hat hwc; obtain rfl : cc = (kf : Int) := num_of HZ.out hat; clear hat hwc; rw [hq]))
        refine bodyPost_ret (v := .tuple #[.agg #[.int .i64 (kf : Int), .int .i64 (kt : Int)], .bool q]) (by simp [results, Tryd.results48, go_sem]) rfl ?_
        exact span_end rfl HE.out.1 HE.out.2 (bal (bal (b0 w) _) _)
end Go.Proofs.YtjdjkdgdbdenpaaDoor
/- The spans of lines. -/
namespace Go.Proofs.YtjdjkdgdbdenpaaDoor
open Go Go.RowKit Go.Maps

def sps (l : List (Nat × Nat)) : List Value := l.flatMap fun p => [.int .i64 (p.1 : Int), .int .i64 (p.2 : Int)]
theorem sps_len (l : List (Nat × Nat)) : (sps l).length = l.length * 2 := by
  induction l with
  | nil => rfl
  | cons p l ih => rw [show sps (p :: l) = .int .i64 (p.1 : Int) :: .int .i64 (p.2 : Int) :: sps l from rfl]; simp only [List.length_cons, ih]; omega
theorem sps_at {l : List (Nat × Nat)} {j : Nat} (h : j < l.length) : (sps l)[j * 2]? = some (.int .i64 (((l.getD j (0, 0)).1 : Nat) : Int)) ∧ (sps l)[j * 2 + 1]? = some (.int .i64 (((l.getD j (0, 0)).2 : Nat) : Int)) := by
  induction l generalizing j with
  | nil => simp at h
  | cons p l ih =>
    rw [show sps (p :: l) = .int .i64 (p.1 : Int) :: .int .i64 (p.2 : Int) :: sps l from rfl]
    cases j with
    | zero => exact ⟨rfl, rfl⟩
    | succ j =>
      have := ih (j := j) (by simpa using h)
      rw [show (j + 1) * 2 = j * 2 + 1 + 1 by omega, show j * 2 + 1 + 1 + 1 = (j * 2 + 1) + 1 + 1 by omega]
      simp only [List.getElem?_cons_succ, List.getD_cons_succ]
      exact this
theorem sps_set (l : List (Nat × Nat)) (j a b : Nat) : sps (l.set j (a, b)) = ((sps l).set (j * 2) (.int .i64 (a : Int))).set (j * 2 + 1) (.int .i64 (b : Int)) := by
  induction l generalizing j with
  | nil => rfl
  | cons p l ih =>
    cases j with
    | zero => rfl
    | succ j =>
      rw [List.set_cons_succ, show sps (p :: l.set j (a, b)) = .int .i64 (p.1 : Int) :: .int .i64 (p.2 : Int) :: sps (l.set j (a, b)) from rfl, ih,
        show sps (p :: l) = .int .i64 (p.1 : Int) :: .int .i64 (p.2 : Int) :: sps l from rfl, show (j + 1) * 2 = j * 2 + 1 + 1 by omega]
      rfl
theorem sps_zero (m : Nat) : sps (List.replicate m (0, 0)) = List.replicate (m * 2) (.int .i64 0) := by
  rw [List.eq_replicate_iff]
  refine ⟨by rw [sps_len, List.length_replicate], fun v hv => ?_⟩
  simp only [sps, List.mem_flatMap] at hv
  obtain ⟨p, hp, hv⟩ := hv
  have := List.eq_of_mem_replicate hp
  subst this
  simp at hv
  exact hv
def OwnP (w : World) (B : Nat) (A : Option Addr) (n c : Nat) (sp : List (Nat × Nat)) : Prop := w.ownsRow B 100 2 (.slice A n c) n (sps sp)
theorem OwnP.len {w : World} {B n c : Nat} {A : Option Addr} {sp : List (Nat × Nat)} (h : OwnP w B A n c sp) : sp.length = n := by
  have := h.1
  rw [sps_len] at this
  omega
theorem ownP_nil (w : World) (B : Nat) : OwnP w B none 0 0 [] := World.ownsRow_nil w B _ 2
theorem span_info : (Tryd.prog.info? 100).map (fun i => (i.zero, i.size, i.bytes)) = some (some (.agg #[.int .i64 0, .int .i64 0]), 2, 16) := by kernel_rfl
def spz (m : Nat) : Array Value := (sps (List.replicate m (0, 0))).toArray
theorem made_two (m : Nat) : spz m = madeCells #[.int .i64 0, .int .i64 0] (m * 2) := by
  unfold spz
  rw [sps_zero]
  apply Array.ext'
  rw [show (List.replicate (m * 2) (Value.int .i64 0)).toArray.toList = List.replicate (m * 2) (Value.int .i64 0) from rfl]
  symm
  rw [List.eq_replicate_iff]
  refine ⟨by simp [madeCells], fun v hv => ?_⟩
  simp only [madeCells, Array.toList_map, List.mem_map] at hv
  obtain ⟨j, _, rfl⟩ := hv
  have : j % 2 = 0 ∨ j % 2 = 1 := by omega
  rcases this with h | h <;> simp [h]
theorem run_mkP (m : Nat) (hm : m ≤ 100000) : ∀ w : World, (Instr.makeSlice 54 (.int .i64 (m : Int)) (.int .i64 (m : Int))).run Tryd.prog w = .ok (.slice (some ⟨w.heap.size, 0, none⟩) m m) (w.alloc (.cells (spz m) 100)) := fun w => by
  obtain ⟨i0, hi0, hz0, hz1, hz2⟩ := info_parts span_info
  have h := run_make (P := Tryd.prog) w 54 100 i0 (.agg #[.int .i64 0, .int .i64 0]) Tryd.underlying54 hi0 hz0 .i64 .i64 (m : Int) (m : Int) (by omega) (by omega) (by rw [hz2]; omega) (by omega)
  rw [hz1, Int.toNat_natCast] at h
  rw [h, made_two]
  rfl
theorem ownP_new {w : World} {B m : Nat} (hB : B ≤ w.heap.size) (hm : m ≤ 100000) : OwnP (w.alloc (.cells (spz m) 100)) B (some ⟨w.heap.size, 0, none⟩) m m (List.replicate m (0, 0)) :=
  ⟨by rw [sps_len, List.length_replicate], .inr ⟨w.heap.size, m, spz m, rfl, hB, heap_alloc_new w _, Nat.le_refl _, by unfold maxLen; omega, by simp [spz, sps_len], by
    show (sps (List.replicate m (0, 0))).take (m * 2) = _
    exact List.take_of_length_le (by rw [sps_len, List.length_replicate]; exact Nat.le_refl _)⟩⟩
def spL (ls : List Ln) : List (Nat × Nat) := (List.range ls.length).map fun i => (spanF ls i, spanT ls i)
theorem spL_len (ls : List Ln) : (spL ls).length = ls.length := by simp [spL]
def spR (ls : List Ln) : List (Nat × Nat) := if chk ls = 0 then spL ls else []
def GivesP (w : World) (sp : List (Nat × Nat)) (er : Int) (e : Ending) (w' : World) : Prop := ∃ A c, e = .returned (.tuple #[.slice A sp.length c, .int .i64 er]) ∧ OwnP w' w.heap.size A sp.length c sp ∧ Below w.heap.size w w'
/-- The first k spans are set. -/
def SpUpto (ls : List Ln) (k : Nat) (sp : List (Nat × Nat)) : Prop := ∀ j, j < k → sp.getD j (0, 0) = (spanF ls j, spanT ls j)
theorem spUpto_next {ls : List Ln} {k : Nat} {sp : List (Nat × Nat)} (h : SpUpto ls k sp) (hk : k < sp.length) : SpUpto ls (k + 1) (sp.set k (spanF ls k, spanT ls k)) := by
  intro j hj
  by_cases he : j = k
  · subst he; simp [hk]
  · have := h j (by omega)
    simp only [List.getD_eq_getElem?_getD] at this ⊢
    rw [List.getElem?_set_ne (by omega)]
    exact this
theorem spUpto_all {ls : List Ln} {sp : List (Nat × Nat)} (h : SpUpto ls ls.length sp) (hl : sp.length = ls.length) : sp = spL ls := by
  apply List.ext_getElem (by rw [hl, spL_len])
  intro i h1 h2
  have := h i (by omega)
  simp only [List.getD_eq_getElem?_getD, List.getElem?_eq_getElem h1, Option.getD_some] at this
  rw [this]
  simp [spL]
theorem lineOk_split {ls : List Ln} {i : Nat} (hv : vld (ls.getD i l0) = true) : lineOk ls i = (((ls.getD i l0).lab.isEmpty || decide (fnd ls (ls.getD i l0).lab = some i)) && spanOk ls i) := by
  have hp := (vld_parts hv).2.2
  unfold lineOk spanOk
  rw [Bool.and_assoc]
  congr 1
  rcases hp with ⟨h1, h2⟩ | ⟨h1, h2, _⟩
  · rw [h1, h2]; rfl
  · have e : (ls.getD i l0).tgt.isEmpty = false := by cases hq : (ls.getD i l0).tgt with | nil => rw [hq] at h1; cases h1 | cons a b => rfl
    rw [e]; rfl
theorem chk_uq {ls : List Ln} (ha : ls.all vld = true) (h : ¬ Uq ls ls.length) : chk ls = 60 := by
  unfold Uq at h
  have : ∃ j, j < ls.length ∧ ¬ ((ls.getD j l0).lab.isEmpty = true ∨ fnd ls (ls.getD j l0).lab = some j) := Classical.byContradiction fun hn => h fun j hj => Classical.byContradiction fun h2 => hn ⟨j, hj, h2⟩
  obtain ⟨j, hj, h2⟩ := this
  refine chk_bad ha hj ?_
  rw [lineOk_split (all_get ha hj)]
  have e1 : (ls.getD j l0).lab.isEmpty = false := by rw [Bool.eq_false_iff]; exact fun e => h2 (.inl e)
  have e2 : decide (fnd ls (ls.getD j l0).lab = some j) = false := decide_eq_false (fun e => h2 (.inr e))
  rw [e1, e2]; rfl
theorem chk_sp {ls : List Ln} (ha : ls.all vld = true) {j : Nat} (hj : j < ls.length) (h : spanOk ls j = false) : chk ls = 60 := by
  refine chk_bad ha hj ?_
  rw [lineOk_split (all_get ha hj), h, Bool.and_false]
theorem chk_all {ls : List Ln} (ha : ls.all vld = true) (hu : Uq ls ls.length) (h : ∀ j, j < ls.length → spanOk ls j = true) : chk ls = 0 := by
  refine chk_zero ha fun j hj => ?_
  rw [lineOk_split (all_get ha hj), h j hj, Bool.and_true]
  rcases hu j hj with h1 | h1
  · rw [h1]; rfl
  · rw [decide_eq_true h1, Bool.or_true]
theorem givesP_no {w : World} {ls : List Ln} {er : Int} {e : Ending} {w' : World} (he : e = .returned (.tuple #[.slice none 0 0, .int .i64 er])) (hc : chk ls = er) (h0 : er ≠ 0) (hb : Below w.heap.size w w') : GivesP w (spR ls) (chk ls) e w' := by
  have : spR ls = [] := if_neg (by rw [hc]; exact h0)
  rw [this, hc]
  exact ⟨none, 0, he, ownP_nil _ _, hb⟩
set_option maxRecDepth 100000 in
set_option maxHeartbeats 8000000 in
theorem spansOf_any {A : Option Addr} {c m : Nat} {ls : List Ln} {w : World} (R : RL w A c ls) (hm : ls.length = m) (h1 : m ≤ 100000) (hg : Vars w) : Calls Tryd.prog 31 #[.slice A m c] w (GivesP w (spR ls) (chk ls)) := by
  have HR := Lib.hid R
  have HM := Lib.hid hm
  have CV := Lib.hid (fun (k : Nat) (W : World) (b : Below w.heap.size w W) => isValid_any (ls.getD k l0) (R.ok.get k) W (hg.below b))
  have CP := Lib.hid (fun (W : World) (b : Below w.heap.size w W) => placesOf_any (R.keep b) hm h1)
  have CS := Lib.hid (fun (k : Nat) (hk : k ≤ 100000) (X : World) (b n : Nat) (D : DataW Unit) (ho : X.ownsMap Tryd.prog 9 (plainElem Tryd.prog 3) b n D) (hr : MR D ls) => spanOf_any ho hr k hk (R.ok.get k))
  clear R hm hg
  go_enter Tryd.func31, Tryd.ntmps31
  go_wp2
  go_loopw [13] (fun i wr => ∃ k : Nat, k ≤ m ∧ i = .int .i64 k ∧ Hid (Below w.heap.size w wr ∧ ∀ j, j < k → vld (ls.getD j l0) = true)) (fun i _ => m - (intOf i).toNat)
  case atStart => exact ⟨0, Nat.zero_le _, rfl, Lib.hid ⟨b0 w, fun j hj => absurd hj (by omega)⟩⟩
  case round =>
    obtain ⟨k, hk, rfl, H⟩ := hrel
    by_cases hlt : (k : Int) < (m : Int)
    · obtain ⟨ad, rfl, c0, c1, c2, c3, c4⟩ := (HR.out.keep H.out.1).rd k (by have := HM.out; omega)
      have BX := Lib.hid (bal H.out.1 (.cells #[.string (strOf (ls.getD k l0).lab), .int .u8 ((ls.getD k l0).fn : Int), .int .i32 (ls.getD k l0).arg, .string (strOf (ls.getD k l0).tgt), .string (strOf (ls.getD k l0).fr)] 39))
      have C1 := Lib.hid (CV.out k _ BX.out)
      cases hv : vld (ls.getD k l0) with
      | true =>
        have HY := Lib.hid (show ∀ j, j < k + 1 → vld (ls.getD j l0) = true from fun j hj => if h : j < k then H.out.2 j h else by rw [show j = k by omega]; exact hv)
        rw [hv] at C1
        clear hv
        generalize ls.getD k l0 = x at *
        go_wp2_with (go_at_call 38; refine C1.out.mono ?_; rintro e w1 ⟨rfl, b1⟩; have B1 := Lib.hid (blw BX.out b1); clear b1)
        go_roundw
        case rel => exact ⟨k + 1, by omega, by go_num, Lib.hid ⟨B1.out, HY.out⟩⟩
        case measure => simp [intOf]; omega
      | false =>
        have HY := Lib.hid (all_bad (ls := ls) (k := k) (by have := HM.out; omega) hv)
        rw [hv] at C1
        clear hv
        generalize ls.getD k l0 = x at *
        go_wp2_with (go_at_call 38; refine C1.out.mono ?_; rintro e w1 ⟨rfl, b1⟩; have B1 := Lib.hid (blw BX.out b1); clear b1)
        go_ret2
        exact givesP_no rfl HY.out (by decide) B1.out
    · obtain rfl : k = m := by omega
      have HA := Lib.hid (all_ok (ls := ls) (by rw [HM.out]; exact H.out.2))
      have HB := Lib.hid H.out.1
      have C2 := CP.out wr H.out.1
      clear H
      generalize wr = W1 at *
      by_cases hU : Uq ls ls.length
      · have HU := Lib.hid hU
        have C3 := Lib.hid (C2.mono (R' := fun e w' => ∃ b n D, e = .returned (.tuple #[.map (some b), .bool true]) ∧ w'.ownsMap Tryd.prog 9 (plainElem Tryd.prog 3) b n D ∧ MR D ls ∧ Below W1.heap.size W1 w') (fun e w' h => by
          unfold GivesM at h
          rcases h with ⟨_, h⟩ | ⟨h, _⟩
          · exact h
          · exact absurd hU h))
        have hmk := run_mkP k h1
        clear C2 hU
        go_wp2_with (go_at_call 47; refine C3.out.mono ?_; rintro e w2 ⟨mb, mn, MD, rfl, mo, mr, b2⟩; have M2 := Lib.hid (And.intro mo (And.intro mr (blw HB.out b2))); clear mo mr b2)
        have P0 := Lib.hid (And.intro (ownP_new (B := w.heap.size) (m := k) M2.out.2.2.size h1) (bal (b0 w2) (.cells (spz k) 100)))
        clear hmk
        generalize w2.alloc (.cells (spz k) 100) = W3 at *
        go_loopw [33] (fun i wr => ∃ k2 : Nat, k2 ≤ k ∧ i = .int .i64 k2 ∧ Hid (Below w2.heap.size w2 wr ∧ (∀ j, j < k2 → spanOk ls j = true) ∧ ∃ sp, OwnP wr w.heap.size (some ⟨w2.heap.size, 0, none⟩) k k sp ∧ SpUpto ls k2 sp)) (fun i _ => k - (intOf i).toNat)
        case atStart => exact ⟨0, Nat.zero_le _, rfl, Lib.hid ⟨P0.out.2, (fun j hj => absurd hj (by omega)), _, P0.out.1, fun j hj => absurd hj (by omega)⟩⟩
        case round =>
          obtain ⟨k2, hk2, rfl, H⟩ := hrel
          by_cases hlt2 : (k2 : Int) < (k : Int)
          · obtain ⟨ad, rfl, c0, c1, c2, c3, c4⟩ := (HR.out.keep (blw M2.out.2.2 H.out.1)).rd k2 (by have := HM.out; omega)
            have BX := Lib.hid (bal H.out.1 (.cells #[.string (strOf (ls.getD k2 l0).lab), .int .u8 ((ls.getD k2 l0).fn : Int), .int .i32 (ls.getD k2 l0).arg, .string (strOf (ls.getD k2 l0).tgt), .string (strOf (ls.getD k2 l0).fr)] 39))
            have C4' := Lib.hid (CS.out k2 (by omega) _ mb mn MD (map_below M2.out.1 BX.out) M2.out.2.1)
            unfold SpanIs at C4'
            have hk20 : (0 : Int) ≤ (k2 : Int) := by omega
            obtain ⟨_, hok, sp, hsp, hup⟩ := H.out
            have HK := Lib.hid (And.intro hok (And.intro hsp hup))
            have HLen := Lib.hid hsp.len
            have HSt := Lib.hid (fun (X : World) (bX : Below wr.heap.size wr X) (a b : Nat) => by
              have o0 := own_keepB hsp bX
              have hl := hsp.len
              have s1 := World.ownsRow.stored o0 (k2 * 2) (.int .i64 (a : Int))
              have s2 := World.ownsRow.stored s1.1 (k2 * 2 + 1) (.int .i64 (b : Int))
              rw [← sps_set] at s2
              have q := sps_at (l := sp) (j := k2) (by omega)
              exact (And.intro (And.intro ((World.ownsRow.cellAt o0 (k2 * 2) (by omega)).trans q.1) ((World.ownsRow.cellAt o0 (k2 * 2 + 1) (by omega)).trans q.2)) (And.intro (And.intro (World.ownsRow.frozenAt o0 (k2 * 2)) (World.ownsRow.frozenAt o0 (k2 * 2 + 1))) s2.1) :
                ((X.cell? ⟨w2.heap.size, k2 * 2, none⟩ = some (.int .i64 (((sp.getD k2 (0, 0)).1 : Nat) : Int)) ∧ X.cell? ⟨w2.heap.size, k2 * 2 + 1, none⟩ = some (.int .i64 (((sp.getD k2 (0, 0)).2 : Nat) : Int))) ∧
                (X.frozen? ⟨w2.heap.size, k2 * 2, none⟩ = false ∧ X.frozen? ⟨w2.heap.size, k2 * 2 + 1, none⟩ = false) ∧
                OwnP ((X.setCell ⟨w2.heap.size, k2 * 2, none⟩ (.int .i64 (a : Int))).setCell ⟨w2.heap.size, k2 * 2 + 1, none⟩ (.int .i64 (b : Int))) w.heap.size (some ⟨w2.heap.size, 0, none⟩) k k (sp.set k2 (a, b)))))
            clear hok hsp hup
            generalize (sp.getD k2 (0, 0)).1 = s0 at *
            generalize (sp.getD k2 (0, 0)).2 = s1 at *
            cases hq : spanOk ls k2 with
            | true =>
              rw [hq] at C4'
              have HQ := Lib.hid (show ∀ j, j < k2 + 1 → spanOk ls j = true from fun j hj => if h : j < k2 then HK.out.1 j h else by rw [show j = k2 by omega]; exact hq)
              have HW := Lib.hid (spUpto_next HK.out.2.2 (by have := HLen.out; omega))
              clear hq
              generalize spanF ls k2 = F1 at *
              generalize spanT ls k2 = T1 at *
              generalize ls.getD k2 l0 = x at *
              go_wp2_with (go_at_call 48; refine C4'.out.mono ?_; rintro e w5 ⟨sa, sb, rfl, hcond, b5⟩; obtain ⟨rfl, rfl⟩ := hcond rfl; have B5 := Lib.hid (blw (bal (b0 wr) _) b5); obtain ⟨⟨g0, g1⟩, ⟨f0, f1⟩, hfin⟩ := HSt.out w5 B5.out sa sb; have HE := Lib.hid hfin; clear hfin b5 hcond)
              go_roundw
              case rel => exact ⟨k2 + 1, by omega, by go_num, Lib.hid ⟨bset (bset (blw H.out.1 B5.out) (Nat.le_refl _) _) (Nat.le_refl _) _, HQ.out, _, HE.out, HW.out⟩⟩
              case measure => simp [intOf]; omega
            | false =>
              rw [hq] at C4'
              have HY := Lib.hid (chk_sp HA.out (by have := HM.out; omega) hq)
              clear hq
              generalize ls.getD k2 l0 = x at *
              go_wp2_with (go_at_call 48; refine C4'.out.mono ?_; rintro e w5 ⟨sa, sb, rfl, hcond, b5⟩; have B5 := Lib.hid (blw (bal (b0 wr) _) b5); obtain ⟨⟨g0, g1⟩, ⟨f0, f1⟩, hfin⟩ := HSt.out w5 B5.out sa sb; clear hfin b5 hcond)
              go_ret2
              exact givesP_no rfl HY.out (by decide) (bset (bset (blw M2.out.2.2 (blw H.out.1 B5.out)) M2.out.2.2.size _) M2.out.2.2.size _)
          · obtain rfl : k2 = k := by omega
            have HF := Lib.hid (chk_all HA.out HU.out (by rw [HM.out]; exact H.out.2.1))
            go_wp2
            go_ret2
            obtain ⟨hb, _, sp, hsp, hup⟩ := H.out
            have e := spUpto_all (ls := ls) (sp := sp) (by rw [HM.out]; exact hup) (by rw [hsp.len, HM.out])
            have e2 : spR ls = spL ls := if_pos HF.out
            rw [e2, HF.out]
            subst e
            unfold GivesP
            rw [spL_len, HM.out]
            exact ⟨_, _, rfl, hsp, blw M2.out.2.2 hb⟩
      · have C3 := Lib.hid (C2.mono (R' := fun e w' => e = .returned (.tuple #[.map none, .bool false]) ∧ Below W1.heap.size W1 w') (fun e w' h => by
          unfold GivesM at h
          rcases h with ⟨h, _⟩ | ⟨_, h⟩
          · exact absurd h hU
          · exact h))
        have HY := Lib.hid (chk_uq HA.out hU)
        clear C2 hU
        go_wp2_with (go_at_call 47; refine C3.out.mono ?_; rintro e w2 ⟨rfl, b2⟩; have B2 := Lib.hid (blw HB.out b2); clear b2)
        go_ret2
        exact givesP_no rfl HY.out (by decide) B2.out
end Go.Proofs.YtjdjkdgdbdenpaaDoor
