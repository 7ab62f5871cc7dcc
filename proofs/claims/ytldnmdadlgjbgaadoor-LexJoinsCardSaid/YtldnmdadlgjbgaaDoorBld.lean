/- The builder of texts: what writing into it does. -/
import Derived.Test.YtldnmdadlgjbgaaDoorPlh
import Derived.Lib.Builder
import Derived.Lib.AppendStr
import Derived.Laws.Externs
set_option linter.unusedVariables false
set_option linter.unusedSimpArgs false
namespace Go.Proofs.YtldnmdadlgjbgaaDoor
open Go Go.RowKit L8

theorem bld_size : (Tryd.prog.info? 50).map (·.size) = some 2 := by kernel_rfl
theorem bld_lies : liesAt Tryd.prog Tryd.prog.depth 50 (2 / Tryd.prog.cellsOf 50) 0 50 1 = true := by kernel_rfl
theorem byte_info : (Tryd.prog.info? 5).map (fun i => (i.zero, i.size, i.bytes)) = some (some (.int .u8 0), 1, 1) := by kernel_rfl
/-- A builder that has been written into. -/
def BldU (B b : Nat) (l : Bs) (w : World) : Prop := Lib.BuilderAt 50 5 B b (.pointer (some ⟨b, 0, none⟩)) (Lib.byteCells l) w
def BldI (B b : Nat) (l : Bs) (w : World) : Prop := Lib.IsBuilder 50 5 B b (Lib.byteCells l) w
/-- The boxes of other types stay as they were. -/
def Kb (b : Nat) (w w' : World) : Prop := ∀ k t cs, k ≠ b → t ≠ 5 → BoxS w k t cs → BoxS w' k t cs
theorem kb_grow {b B n : Nat} {w w' : World} {v : Value} {xs : List Value} (hown : w.ownsRow B 5 1 v n xs) (g : w.grownBy w' v.ownBlock) : Kb b w w' := by
  intro k t cs _ ht h
  refine h.kept g (fun e => ?_)
  rcases hown.2 with ⟨rfl, _⟩ | ⟨gg, cap, cur, rfl, _, hgb, _⟩
  · simp [Value.ownBlock] at e
  · obtain rfl : k = gg := by simpa [Value.ownBlock] using e
    unfold BoxS at h
    rw [hgb] at h
    injection h with h
    injection h with _ h2 _
    exact ht h2.symm
theorem kb_set {b j : Nat} {w : World} (v : Value) : Kb b w (w.setCell ⟨b, j, none⟩ v) := fun _ _ _ hk _ h => boxS_other h hk v
theorem kb_t {b : Nat} {x y z : World} (h : Kb b x y) (k : Kb b y z) : Kb b x z := fun q t cs h1 h2 h3 => k q t cs h1 h2 (h q t cs h1 h2 h3)
set_option maxRecDepth 100000 in
theorem check_used (b : Nat) (w : World) (h0 : w.cell? ⟨b, 0, none⟩ = some (.pointer (some ⟨b, 0, none⟩))) :
    Calls Tryd.prog 47 #[.pointer (some ⟨b, 0, none⟩)] w fun e w' => e = .returned (.tuple #[]) ∧ w' = w := by
  obtain ⟨j, hj, _⟩ := Option.map_eq_some_iff.1 bld_size
  go_enter Tryd.func47, Tryd.ntmps47
  go_wp2
  rw [Lib.run_neq_ptr_same w _ Tryd.underlying47 hj]
  go_wp2
  go_end0
  exact ⟨rfl, rfl⟩
set_option maxRecDepth 100000 in
theorem check_fresh (b : Nat) (w : World) (h0 : w.cell? ⟨b, 0, none⟩ = some (.pointer none)) (hsh : w.shape? b = some (50, 2)) (hfz : w.frozen? ⟨b, 0, none⟩ = false) :
    Calls Tryd.prog 47 #[.pointer (some ⟨b, 0, none⟩)] w fun e w' => e = .returned (.tuple #[]) ∧ w' = w.setCell ⟨b, 0, none⟩ (.pointer (some ⟨b, 0, none⟩)) := by
  obtain ⟨j, hj, hjs⟩ := Option.map_eq_some_iff.1 bld_size
  go_enter Tryd.func47, Tryd.ntmps47
  go_wp2
  rw [Lib.run_to_unsafe w ⟨b, 0, none⟩ Tryd.underlying47 Tryd.underlying94 hj (by rw [hjs]; decide) hsh (Nat.zero_lt_succ 1)]
  simp only [Result.andThen]
  rw [Oper.upon_value]
  go_wp2
  rw [run_callFunc_extern Tryd.func66 (by kernel_rfl) (by kernel_rfl) (by kernel_rfl) (e := Extern.AbiNoEscape.same) (by kernel_rfl)]
  rw [Lib.run_noEscape]
  simp only [Result.andThen]
  rw [Oper.upon_value]
  go_wp2
  rw [Lib.run_from_unsafe w ⟨b, 0, none⟩ Tryd.underlying94 Tryd.underlying47 hj hsh bld_lies]
  simp only [Result.andThen]
  rw [Oper.upon_value]
  go_wp2
  go_end0
  exact ⟨rfl, rfl⟩
theorem check_any (B b : Nat) (l : Bs) (w : World) (h : BldI B b l w) :
    Calls Tryd.prog 47 #[.pointer (some ⟨b, 0, none⟩)] w fun e w' => e = .returned (.tuple #[]) ∧ BldU B b l w' ∧ Below B w w' ∧ Kb b w w' := by
  rcases h with h | h
  · exact (check_fresh b w h.cell0 h.shape h.frozen0).mono (by rintro e w' ⟨rfl, rfl⟩; exact ⟨rfl, h.used _, (Below.refl B w).setCell (p := ⟨b, 0, none⟩) h.1 _, kb_set _⟩)
  · exact (check_used b w h.cell0).mono (by rintro e w' ⟨rfl, rfl⟩; exact ⟨rfl, h, Below.refl B _, fun _ _ _ _ _ h => h⟩)
theorem cells_str (l : Bs) : Lib.strCells (strOf l) = Lib.byteCells l := by simp [Lib.strCells, Lib.byteCells, strOf]
theorem byteCells_app (l k : Bs) : Lib.byteCells (l ++ k) = Lib.byteCells l ++ Lib.byteCells k := by simp [Lib.byteCells]
set_option maxRecDepth 100000 in
theorem write_any (B b : Nat) (l s : Bs) (w : World) (h : BldI B b l w) (hlen : l.length + s.length ≤ 1000000) (hBw : B ≤ w.heap.size) :
    Calls Tryd.prog 28 #[.pointer (some ⟨b, 0, none⟩), .string (strOf s)] w fun e w' => e = .returned (.tuple #[.int .i64 (s.length : Int), .nilIface]) ∧ BldU B b (l ++ s) w' ∧ Below B w w' ∧ Kb b w w' := by
  obtain ⟨i0, hi, hz0, hz1, hz2⟩ := info_parts byte_info
  have hsz := size_strOf s
  have hbl := Lib.byteCells_length l
  go_enter Tryd.func28, Tryd.ntmps28
  go_wp2_with (go_at_call 47; refine (check_any B b l _ h).mono ?_)
  rintro e w1 ⟨rfl, h1, hb1, kb1⟩
  obtain ⟨hB, v, hbk, hown, hne⟩ := h1
  have c0 : w1.cell? ⟨b, 0, none⟩ = some (.pointer (some ⟨b, 0, none⟩)) := by rw [Lib.cell_of_heap hbk]; rfl
  have c1 : w1.cell? ⟨b, 1, none⟩ = some v := by rw [Lib.cell_of_heap hbk]; rfl
  go_wp2_with (at_builtin; refine Lib.wpList_append_own_string _ rfl _ _ 48 9 rfl B 5 i0 Tryd.underlying48 Tryd.underlying9 hi hz0 hz1 hz2 _ _ _ rfl hown (strOf s) rfl ?c3 ?c4 ?c5 ?_)
  case c3 => unfold maxLen; omega
  case c4 => omega
  case c5 => have := hb1.size; omega
  intro v' w2 hown' hgrow _
  have hlt : b < w1.heap.size := (Array.getElem?_eq_some_iff.1 hbk).1
  have hb2 : w2.heap[b]? = some (.cells #[.pointer (some ⟨b, 0, none⟩), v] 50 (0, 0)) := (hgrow.block b hlt (fun e => hne e.symm)).trans hbk
  have d0 : w2.cell? ⟨b, 0, none⟩ = some (.pointer (some ⟨b, 0, none⟩)) := by rw [Lib.cell_of_heap hb2]; rfl
  have d1 : w2.cell? ⟨b, 1, none⟩ = some v := by rw [Lib.cell_of_heap hb2]; rfl
  have f1 : w2.frozen? ⟨b, 1, none⟩ = false := Lib.frozen_of_heap hb2 1
  obtain ⟨ao, n', cap, rfl⟩ : ∃ ao n' cap, v' = .slice ao n' cap := by
    rcases hown'.2 with ⟨hv, _⟩ | ⟨g, cap, cur, hv, _⟩
    · exact ⟨_, _, _, hv⟩
    · exact ⟨_, _, _, hv⟩
  rw [cells_str, ← byteCells_app] at hown'
  have HKb := Lib.hid (kb_t kb1 (kb_grow (b := b) hown hgrow))
  have HO := Lib.hid hown'
  have HG := Lib.hid hgrow
  clear hown' hgrow kb1
  go_wp2
  go_ret2
  refine ⟨rfl, ?_, ?_, kb_t HKb.out (kb_set _)⟩
  · exact Lib.BuilderAt.put (T := 50) (e := 5) hB hb2 (bs' := Lib.byteCells (l ++ s)) (by have := HO.out; rw [Lib.byteCells_length, List.length_append]; exact this) (by decide)
  · exact (hb1.grown HG.out (by have := hb1.size; omega) (fun k hk => (hown.lt k hk).1)).setCell (p := ⟨b, 1, none⟩) hB _
theorem bldI_keep {B b : Nat} {l : Bs} {w w' : World} (h : BldI B b l w) (k : Below w.heap.size w w') : BldI B b l w' := by
  have key : ∀ p, Lib.BuilderAt 50 5 B b p (Lib.byteCells l) w → Lib.BuilderAt 50 5 B b p (Lib.byteCells l) w' := by
    rintro p ⟨hB, v, hb, ho, hn⟩
    exact ⟨hB, v, (k.block b (Array.getElem?_eq_some_iff.1 hb).1).trans hb, own_keepB ho k, hn⟩
  exact h.imp (key _) (key _)
set_option maxRecDepth 100000 in
theorem writeByte_any (B b : Nat) (l : Bs) (w : World) (h : BldI B b l w) (hlen : l.length + 1 ≤ 1000000) (hBw : B ≤ w.heap.size) :
    Calls Tryd.prog 27 #[.pointer (some ⟨b, 0, none⟩), .int .u8 32] w fun e w' => e = .returned .nilIface ∧ BldU B b (l ++ [32]) w' ∧ Below B w w' ∧ Kb b w w' := by
  obtain ⟨i0, hi, hz0, hz1, hz2⟩ := info_parts byte_info
  have hbl := Lib.byteCells_length l
  go_enter Tryd.func27, Tryd.ntmps27
  go_wp2_with (go_at_call 47; refine (check_any B b l _ h).mono ?_)
  rintro e w1 ⟨rfl, h1, hb1, kb1⟩
  obtain ⟨hB, v, hbk, hown, hne⟩ := h1
  have c0 : w1.cell? ⟨b, 0, none⟩ = some (.pointer (some ⟨b, 0, none⟩)) := by rw [Lib.cell_of_heap hbk]; rfl
  have c1 : w1.cell? ⟨b, 1, none⟩ = some v := by rw [Lib.cell_of_heap hbk]; rfl
  have hlt : b < w1.heap.size := (Array.getElem?_eq_some_iff.1 hbk).1
  have hown1 := World.ownsRow.alloc hown (.cells #[.int .u8 32] 5)
  have hbk1 : (w1.alloc (.cells #[.int .u8 32] 5)).heap[b]? = some (.cells #[.pointer (some ⟨b, 0, none⟩), v] 50 (0, 0)) := (Below.heap_alloc _ _ b hlt).trans hbk
  have hcell : ∀ j u, ([Value.int .u8 32] : List Value)[j]? = some u → (w1.alloc (.cells #[.int .u8 32] 5)).cell? ((⟨w1.heap.size, 0, none⟩ : Addr).add j) = some u := by
    intro j u hj
    match j, hj with
    | 0, hj =>
      injection hj with hj
      subst hj
      exact ((boxS_new w1 5 #[.int .u8 32]).cell 0).trans rfl
  have HC := Lib.hid hcell
  have HO1 := Lib.hid hown1
  have HB1 := Lib.hid hbk1
  have HN := Lib.hid hne
  have hBl := hb1.size
  clear hcell hown1 hbk1 hne hown hbk
  go_wp2_with (at_builtin; refine wpList_append_own _ rfl (.tmp 11) (.tmp 13) 48 rfl B 5 i0 (.int .u8 0) 1 1 Tryd.underlying48 hi hz0 hz1 hz2 rfl (by omega) _ _ _ rfl HO1.out ⟨w1.heap.size, 0, none⟩ 1 1 [.int .u8 32] rfl rfl HC.out (by intro u hu; rw [List.mem_singleton.1 hu]; rfl) ?c3 ?c4 ?c5 ?_)
  case c3 => unfold maxLen; omega
  case c4 => omega
  case c5 => simp; omega
  intro v' w2 hown' hgrow _
  have hb2 : w2.heap[b]? = some (.cells #[.pointer (some ⟨b, 0, none⟩), v] 50 (0, 0)) := (hgrow.block b (by simp; omega) (fun e => HN.out e.symm)).trans HB1.out
  have d0 : w2.cell? ⟨b, 0, none⟩ = some (.pointer (some ⟨b, 0, none⟩)) := by rw [Lib.cell_of_heap hb2]; rfl
  have d1 : w2.cell? ⟨b, 1, none⟩ = some v := by rw [Lib.cell_of_heap hb2]; rfl
  have f1 : w2.frozen? ⟨b, 1, none⟩ = false := Lib.frozen_of_heap hb2 1
  obtain ⟨ao, n', cap, rfl⟩ : ∃ ao n' cap, v' = .slice ao n' cap := by
    rcases hown'.2 with ⟨hv, _⟩ | ⟨g, cap, cur, hv, _⟩
    · exact ⟨_, _, _, hv⟩
    · exact ⟨_, _, _, hv⟩
  have e32 : Lib.byteCells l ++ [Value.int .u8 32] = Lib.byteCells (l ++ [32]) := by rw [byteCells_app]; rfl
  rw [e32] at hown'
  have HKb := Lib.hid (kb_t (kb_t kb1 (fun _ _ _ _ _ h => BoxS.alloc h _)) (kb_grow (b := b) HO1.out hgrow))
  have HO := Lib.hid hown'
  have HG := Lib.hid hgrow
  clear hown' hgrow e32 kb1
  go_wp2
  go_ret
  refine ⟨rfl, ?_, ?_, kb_t HKb.out (kb_set _)⟩
  · exact Lib.BuilderAt.put (T := 50) (e := 5) hB hb2 (bs' := Lib.byteCells (l ++ [32])) (by have := HO.out; rw [Lib.byteCells_length, List.length_append]; simpa [hbl] using this) (by decide)
  · exact ((hb1.alloc (by omega) _).grown HG.out (by simp; omega) (fun k hk => (HO1.out.lt k hk).1)).setCell (p := ⟨b, 1, none⟩) hB _
end Go.Proofs.YtldnmdadlgjbgaaDoor
