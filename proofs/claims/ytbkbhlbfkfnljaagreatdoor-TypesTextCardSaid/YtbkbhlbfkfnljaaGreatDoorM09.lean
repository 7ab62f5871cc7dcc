/- The program: the closure that decides on a space. -/
import Derived.Lib.Builder
import Derived.Lib.AppendStr
import Derived.Laws.Externs
import Derived.Test.YtbkbhlbfkfnljaaGreatDoorM08
import Derived.Test.YtbkbhlbfkfnljaaGreatDoorM05
import Derived.Test.YtbkbhlbfkfnljaaGreatDoorM01
set_option linter.unusedVariables false
set_option linter.unusedSimpArgs false
set_option linter.unusedVariables false
set_option linter.unusedSimpArgs false
namespace Go.Proofs.YtbkbhlbfkfnljaaGreatDoor
open Go Go.RowKit L8

/-- Whether there is a space between the token before and this one. -/
def spB (y x : Tk) : Bool := if y.k = 0 then false else !near y x
def bxT (x : Tk) : Array Value := #[.int .u8 (x.k : Int), .int .i64 x.a, .string (strOf x.tx), .int .i32 x.n]
theorem spacing_any (w : World) : Calls Tryz.prog 22 #[] w fun e w' => e = .returned (.func (.func 38) #[] #[.pointer (some ⟨w.heap.size, 0, none⟩)]) ∧ w' = w.alloc (.cells #[.int .u8 0, .int .i64 0, .string ⟨#[]⟩, .int .i32 0] 39) := by
  have hmf : ∀ (fn : Fn) (first cap : Array Value) (w : World), (Instr.makeFunc fn first cap).run Tryz.prog w = .ok (.func fn first cap) w := fun _ _ _ _ => rfl
  go_enter Tryz.func22, Tryz.ntmps22
  go_wp2
  go_ret
  exact ⟨rfl, rfl⟩
/-- The last token lies in the box. -/
theorem set4_g (w : World) (B : Nat) (a b c d : Value) : w.grownBy (set4 w B a b c d) (some B) :=
  g_trans (g_trans (g_trans (g_set w B 0 a) (g_set _ B 1 b)) (g_set _ B 2 c)) (g_set _ B 3 d)
/-- What is known in the closure: the last token's box, and the boxes of its own two tokens. -/
def Spk (w V : World) (B : Nat) (x y : Tk) : Prop := w.grownBy V (some B) ∧ BoxS V B 39 (bxT x) ∧ BoxS V w.heap.size 39 (bxT x) ∧ BoxS V (w.heap.size + 1) 39 (bxT y)
theorem Spk.new {w : World} {B : Nat} {x y : Tk} (h : BoxS w B 39 (bxT y)) : Spk w (((set4 w B (.int .u8 (x.k : Int)) (.int .i64 x.a) (.string (strOf x.tx)) (.int .i32 x.n)).alloc (.cells (bxT x) 39)).alloc (.cells (bxT y) 39)) B x y := by
  have h1 : BoxS (set4 w B (.int .u8 (x.k : Int)) (.int .i64 x.a) (.string (strOf x.tx)) (.int .i32 x.n)) B 39 (bxT x) := box4_all _ _ _ _ h
  have hs : (set4 w B (.int .u8 (x.k : Int)) (.int .i64 x.a) (.string (strOf x.tx)) (.int .i32 x.n)).heap.size = w.heap.size := by unfold set4; simp
  refine ⟨g_trans (g_trans (set4_g w B _ _ _ _) (World.grownBy_alloc _ _ _)) (World.grownBy_alloc _ _ _), BoxS.alloc (BoxS.alloc h1 _) _, ?_, ?_⟩
  · have := boxS_new (set4 w B (.int .u8 (x.k : Int)) (.int .i64 x.a) (.string (strOf x.tx)) (.int .i32 x.n)) 39 (bxT x)
    rw [hs] at this
    exact BoxS.alloc this _
  · have := boxS_new ((set4 w B (.int .u8 (x.k : Int)) (.int .i64 x.a) (.string (strOf x.tx)) (.int .i32 x.n)).alloc (.cells (bxT x) 39)) 39 (bxT y)
    rw [World.size_alloc, hs] at this
    exact this
theorem Spk.below {w V V' : World} {B : Nat} {x y : Tk} (h : Spk w V B x y) (k : Below V.heap.size V V') : Spk w V' B x y :=
  ⟨g_trans h.1 (g_any (g_of_below k) _), h.2.1.below k, h.2.2.1.below k, h.2.2.2.below k⟩
theorem Spk.x {w V : World} {B k : Nat} {a n : Int} {tx : Bs} {y : Tk} (h : Spk w V B ⟨k, a, tx, n⟩ y) : V.cell? ⟨w.heap.size, 0, none⟩ = some (.int .u8 (k : Int)) ∧ V.cell? ⟨w.heap.size, 1, none⟩ = some (.int .i64 a) ∧ V.cell? ⟨w.heap.size, 2, none⟩ = some (.string (strOf tx)) ∧ V.cell? ⟨w.heap.size, 3, none⟩ = some (.int .i32 n) := (box4 h.2.2.1).1
theorem Spk.y {w V : World} {B k : Nat} {a n : Int} {tx : Bs} {x : Tk} (h : Spk w V B x ⟨k, a, tx, n⟩) : V.cell? ⟨w.heap.size + 1, 0, none⟩ = some (.int .u8 (k : Int)) ∧ V.cell? ⟨w.heap.size + 1, 1, none⟩ = some (.int .i64 a) ∧ V.cell? ⟨w.heap.size + 1, 2, none⟩ = some (.string (strOf tx)) ∧ V.cell? ⟨w.heap.size + 1, 3, none⟩ = some (.int .i32 n) := (box4 h.2.2.2).1
theorem spB_0 {y x : Tk} (h : y.k = 0) : spB y x = false := by unfold spB; rw [if_pos h]
theorem spB_n {y x : Tk} (h : y.k ≠ 0) : spB y x = !((opens x && decide (y.k = 1)) || opens y || closes x) := by unfold spB near; rw [if_neg h]
set_option maxRecDepth 100000 in
set_option maxHeartbeats 16000000 in
theorem space_any (x y : Tk) (hx : OKx x) (hy : OKx y) {B : Nat} {w : World} (h : BoxS w B 39 (bxT y)) : Calls Tryz.prog 38 #[rwV x, .pointer (some ⟨B, 0, none⟩)] w fun e w' => e = .returned (.bool (spB y x)) ∧ BoxS w' B 39 (bxT x) ∧ w.grownBy w' (some B) := by
  have CA : Hid (∀ W : World, Calls Tryz.prog 39 #[rwV x, .string ⟨#[44, 59, 58, 41, 93]⟩] W fun e w' => e = .returned (.bool (closes x)) ∧ Below W.heap.size W w') := Lib.hid fun W => by
    have := isAmong_any x [44, 59, 58, 41, 93] hx W
    rwa [among_closes] at this
  have CB : Hid (∀ W : World, Calls Tryz.prog 39 #[rwV y, .string ⟨#[40, 91]⟩] W fun e w' => e = .returned (.bool (opens y)) ∧ Below W.heap.size W w') := Lib.hid fun W => by
    have := isAmong_any y [40, 91] hy W
    rwa [among_opens] at this
  have CC : Hid (∀ W : World, Calls Tryz.prog 39 #[rwV x, .string ⟨#[40, 91]⟩] W fun e w' => e = .returned (.bool (opens x)) ∧ Below W.heap.size W w') := Lib.hid fun W => by
    have := isAmong_any x [40, 91] hx W
    rwa [among_opens] at this
  have hB := h.lt
  obtain ⟨f0, f1, f2, f3⟩ := box4f h
  have HV := Lib.hid (Spk.new (x := x) h)
  unfold set4 bxT at HV
  obtain ⟨k, a, tx, n⟩ := x
  obtain ⟨k', a', tx', n'⟩ := y
  obtain ⟨⟨c0, c1, c2, c3⟩, _⟩ := box4 (show BoxS w B 39 #[.int .u8 (k' : Int), .int .i64 a', .string (strOf tx'), .int .i32 n'] from h)
  dsimp only [rwV] at *
  clear h hx hy
  by_cases h0 : k' = 0
  · have q0 : ((k' : Int) == 0) = true := by rw [h0]; rfl
    rw [spB_0 h0]
    clear h0 CA CB CC
    have HE := Lib.hid (fun V (H : Spk w V B ⟨k, a, tx, n⟩ ⟨k', a', tx', n'⟩) => And.intro H.2.1 H.1)
    generalize strOf tx = S at *
    generalize strOf tx' = S' at *
    go_enter Tryz.func38, Tryz.ntmps38
    go_wp2
    go_ret
    exact ⟨rfl, HE.out _ HV.out⟩
  · have q0 : ((k' : Int) == 0) = false := by simp [h0]
    have q1 : ((k' : Int) != 1) = !decide (k' = 1) := by by_cases h : k' = 1 <;> simp [h]; omega
    rw [spB_n (y := ⟨k', a', tx', n'⟩) h0]
    have HE := Lib.hid (fun V (H : Spk w V B ⟨k, a, tx, n⟩ ⟨k', a', tx', n'⟩) => And.intro H.2.1 H.1)
    have HX := Lib.hid (fun V (H : Spk w V B ⟨k, a, tx, n⟩ ⟨k', a', tx', n'⟩) => And.intro H.x H.y)
    dsimp only
    generalize opens ⟨k, a, tx, n⟩ = ox at *
    generalize opens ⟨k', a', tx', n'⟩ = oy at *
    generalize closes ⟨k, a, tx, n⟩ = cx at *
    generalize decide (k' = 1) = k1 at *
    clear h0
    generalize strOf tx = S at *
    generalize strOf tx' = S' at *
    cases cx <;> cases oy <;> cases k1 <;> cases ox
    all_goals
      go_enter Tryz.func38, Tryz.ntmps38
      go_wp2_with (first
        | (go_at_call 39; (with_reducible refine (CA.out _).mono ?_); rintro e v1 ⟨rfl, b1⟩; have H1 := Lib.hid (HV.out.below b1); clear b1; obtain ⟨⟨x0, x1, x2, x3⟩, ⟨y0, y1, y2, y3⟩⟩ := HX.out _ H1.out)
        | (go_at_call 39; (with_reducible refine (CB.out _).mono ?_); rintro e v2 ⟨rfl, b1⟩; have H2 := Lib.hid (H1.out.below b1); clear b1 x0 x1 x2 x3 y0 y1 y2 y3; obtain ⟨⟨x0, x1, x2, x3⟩, ⟨y0, y1, y2, y3⟩⟩ := HX.out _ H2.out)
        | (go_at_call 39; (with_reducible refine (CC.out _).mono ?_); rintro e v3 ⟨rfl, b1⟩; have H3 := Lib.hid (H2.out.below b1); clear b1 x0 x1 x2 x3 y0 y1 y2 y3))
      go_ret
      first
        | exact ⟨rfl, HE.out _ H3.out⟩
        | exact ⟨rfl, HE.out _ H2.out⟩
        | exact ⟨rfl, HE.out _ H1.out⟩
end Go.Proofs.YtbkbhlbfkfnljaaGreatDoor
/- The builder of texts: what writing into it does. -/
set_option linter.unusedVariables false
set_option linter.unusedSimpArgs false
namespace Go.Proofs.YtbkbhlbfkfnljaaGreatDoor
open Go Go.RowKit L8

theorem bld_size : (Tryz.prog.info? 63).map (·.size) = some 2 := by kernel_rfl
theorem bld_lies : liesAt Tryz.prog Tryz.prog.depth 63 (2 / Tryz.prog.cellsOf 63) 0 63 1 = true := by kernel_rfl
theorem byte_info : (Tryz.prog.info? 5).map (fun i => (i.zero, i.size, i.bytes)) = some (some (.int .u8 0), 1, 1) := by kernel_rfl
/-- A builder that has been written into. -/
def BldU (B b : Nat) (l : Bs) (w : World) : Prop := Lib.BuilderAt 63 5 B b (.pointer (some ⟨b, 0, none⟩)) (Lib.byteCells l) w
def BldI (B b : Nat) (l : Bs) (w : World) : Prop := Lib.IsBuilder 63 5 B b (Lib.byteCells l) w
/-- The boxes of other types stay as they were. -/
def Kb (b : Nat) (w w' : World) : Prop := ∀ k t cs, k ≠ b → t ≠ 5 → BoxS w k t cs → BoxS w' k t cs
theorem kb_grow {b B n : Nat} {w w' : World} {v : Value} {xs : List Value} (hown : w.ownsRow B 5 1 v n xs) (g : w.grownBy w' v.ownBlock) : Kb b w w' := by
  intro k t cs _ ht h
  refine h.kept g (fun e => ?_)
  rcases hown.2 with ⟨rfl, _⟩ | ⟨gg, cap, cur, rfl, _, hgb, _⟩
  · simp [Value.ownBlock] at e
  · obtain rfl : k = gg := by simpa [Value.ownBlock] using e
    unfold BoxS at h
    rw [hgb] at h
    injection h with h
    injection h with _ h2 _
    exact ht h2.symm
theorem kb_set {b j : Nat} {w : World} (v : Value) : Kb b w (w.setCell ⟨b, j, none⟩ v) := fun _ _ _ hk _ h => boxS_other h hk v
theorem kb_t {b : Nat} {x y z : World} (h : Kb b x y) (k : Kb b y z) : Kb b x z := fun q t cs h1 h2 h3 => k q t cs h1 h2 (h q t cs h1 h2 h3)
set_option maxRecDepth 100000 in
theorem check_used (b : Nat) (w : World) (h0 : w.cell? ⟨b, 0, none⟩ = some (.pointer (some ⟨b, 0, none⟩))) :
    Calls Tryz.prog 40 #[.pointer (some ⟨b, 0, none⟩)] w fun e w' => e = .returned (.tuple #[]) ∧ w' = w := by
  obtain ⟨j, hj, _⟩ := Option.map_eq_some_iff.1 bld_size
  go_enter Tryz.func40, Tryz.ntmps40
  go_wp2
  rw [Lib.run_neq_ptr_same w _ Tryz.underlying60 hj]
  go_wp2
  go_end0
  exact ⟨rfl, rfl⟩
set_option maxRecDepth 100000 in
theorem check_fresh (b : Nat) (w : World) (h0 : w.cell? ⟨b, 0, none⟩ = some (.pointer none)) (hsh : w.shape? b = some (63, 2)) (hfz : w.frozen? ⟨b, 0, none⟩ = false) :
    Calls Tryz.prog 40 #[.pointer (some ⟨b, 0, none⟩)] w fun e w' => e = .returned (.tuple #[]) ∧ w' = w.setCell ⟨b, 0, none⟩ (.pointer (some ⟨b, 0, none⟩)) := by
  obtain ⟨j, hj, hjs⟩ := Option.map_eq_some_iff.1 bld_size
  go_enter Tryz.func40, Tryz.ntmps40
  go_wp2
  rw [Lib.run_to_unsafe w ⟨b, 0, none⟩ Tryz.underlying60 Tryz.underlying91 hj (by rw [hjs]; decide) hsh (Nat.zero_lt_succ 1)]
  simp only [Result.andThen]
  rw [Oper.upon_value]
  go_wp2
  rw [run_callFunc_extern Tryz.func53 (by kernel_rfl) (by kernel_rfl) (by kernel_rfl) (e := Extern.AbiNoEscape.same) (by kernel_rfl)]
  rw [Lib.run_noEscape]
  simp only [Result.andThen]
  rw [Oper.upon_value]
  go_wp2
  rw [Lib.run_from_unsafe w ⟨b, 0, none⟩ Tryz.underlying91 Tryz.underlying60 hj hsh bld_lies]
  simp only [Result.andThen]
  rw [Oper.upon_value]
  go_wp2
  go_end0
  exact ⟨rfl, rfl⟩
theorem check_any (B b : Nat) (l : Bs) (w : World) (h : BldI B b l w) :
    Calls Tryz.prog 40 #[.pointer (some ⟨b, 0, none⟩)] w fun e w' => e = .returned (.tuple #[]) ∧ BldU B b l w' ∧ Below B w w' ∧ Kb b w w' := by
  rcases h with h | h
  · exact (check_fresh b w h.cell0 h.shape h.frozen0).mono (by rintro e w' ⟨rfl, rfl⟩; exact ⟨rfl, h.used _, (Below.refl B w).setCell (p := ⟨b, 0, none⟩) h.1 _, kb_set _⟩)
  · exact (check_used b w h.cell0).mono (by rintro e w' ⟨rfl, rfl⟩; exact ⟨rfl, h, Below.refl B _, fun _ _ _ _ _ h => h⟩)
theorem cells_str (l : Bs) : Lib.strCells (strOf l) = Lib.byteCells l := by simp [Lib.strCells, Lib.byteCells, strOf]
theorem byteCells_app (l k : Bs) : Lib.byteCells (l ++ k) = Lib.byteCells l ++ Lib.byteCells k := by simp [Lib.byteCells]
set_option maxRecDepth 100000 in
theorem write_any (B b : Nat) (l s : Bs) (w : World) (h : BldI B b l w) (hlen : l.length + s.length ≤ 1000000) (hBw : B ≤ w.heap.size) :
    Calls Tryz.prog 24 #[.pointer (some ⟨b, 0, none⟩), .string (strOf s)] w fun e w' => e = .returned (.tuple #[.int .i64 (s.length : Int), .nilIface]) ∧ BldU B b (l ++ s) w' ∧ Below B w w' ∧ Kb b w w' := by
  obtain ⟨i0, hi, hz0, hz1, hz2⟩ := info_parts byte_info
  have hsz := size_strOf s
  have hbl := Lib.byteCells_length l
  go_enter Tryz.func24, Tryz.ntmps24
  go_wp2_with (go_at_call 40; refine (check_any B b l _ h).mono ?_)
  rintro e w1 ⟨rfl, h1, hb1, kb1⟩
  obtain ⟨hB, v, hbk, hown, hne⟩ := h1
  have c0 : w1.cell? ⟨b, 0, none⟩ = some (.pointer (some ⟨b, 0, none⟩)) := by rw [Lib.cell_of_heap hbk]; rfl
  have c1 : w1.cell? ⟨b, 1, none⟩ = some v := by rw [Lib.cell_of_heap hbk]; rfl
  go_wp2_with (at_builtin; refine Lib.wpList_append_own_string _ rfl _ _ 61 9 rfl B 5 i0 Tryz.underlying61 Tryz.underlying9 hi hz0 hz1 hz2 _ _ _ rfl hown (strOf s) rfl ?c3 ?c4 ?c5 ?_)
  case c3 => unfold maxLen; omega
  case c4 => omega
  case c5 => have := hb1.size; omega
  intro v' w2 hown' hgrow _
  have hlt : b < w1.heap.size := (Array.getElem?_eq_some_iff.1 hbk).1
  have hb2 : w2.heap[b]? = some (.cells #[.pointer (some ⟨b, 0, none⟩), v] 63 (0, 0)) := (hgrow.block b hlt (fun e => hne e.symm)).trans hbk
  have d0 : w2.cell? ⟨b, 0, none⟩ = some (.pointer (some ⟨b, 0, none⟩)) := by rw [Lib.cell_of_heap hb2]; rfl
  have d1 : w2.cell? ⟨b, 1, none⟩ = some v := by rw [Lib.cell_of_heap hb2]; rfl
  have f1 : w2.frozen? ⟨b, 1, none⟩ = false := Lib.frozen_of_heap hb2 1
  obtain ⟨ao, n', cap, rfl⟩ : ∃ ao n' cap, v' = .slice ao n' cap := by
    rcases hown'.2 with ⟨hv, _⟩ | ⟨g, cap, cur, hv, _⟩
    · exact ⟨_, _, _, hv⟩
    · exact ⟨_, _, _, hv⟩
  rw [cells_str, ← byteCells_app] at hown'
  have HKb := Lib.hid (kb_t kb1 (kb_grow (b := b) hown hgrow))
  have HO := Lib.hid hown'
  have HG := Lib.hid hgrow
  clear hown' hgrow kb1
  go_wp2
  go_ret2
  refine ⟨rfl, ?_, ?_, kb_t HKb.out (kb_set _)⟩
  · exact Lib.BuilderAt.put (T := 63) (e := 5) hB hb2 (bs' := Lib.byteCells (l ++ s)) (by have := HO.out; rw [Lib.byteCells_length, List.length_append]; exact this) (by decide)
  · exact (hb1.grown HG.out (by have := hb1.size; omega) (fun k hk => (hown.lt k hk).1)).setCell (p := ⟨b, 1, none⟩) hB _
theorem bldI_keep {B b : Nat} {l : Bs} {w w' : World} (h : BldI B b l w) (k : Below w.heap.size w w') : BldI B b l w' := by
  have key : ∀ p, Lib.BuilderAt 63 5 B b p (Lib.byteCells l) w → Lib.BuilderAt 63 5 B b p (Lib.byteCells l) w' := by
    rintro p ⟨hB, v, hb, ho, hn⟩
    exact ⟨hB, v, (k.block b (Array.getElem?_eq_some_iff.1 hb).1).trans hb, own_keepB ho k, hn⟩
  exact h.imp (key _) (key _)
set_option maxRecDepth 100000 in
theorem writeByte_any (B b : Nat) (l : Bs) (w : World) (h : BldI B b l w) (hlen : l.length + 1 ≤ 1000000) (hBw : B ≤ w.heap.size) :
    Calls Tryz.prog 23 #[.pointer (some ⟨b, 0, none⟩), .int .u8 32] w fun e w' => e = .returned .nilIface ∧ BldU B b (l ++ [32]) w' ∧ Below B w w' ∧ Kb b w w' := by
  obtain ⟨i0, hi, hz0, hz1, hz2⟩ := info_parts byte_info
  have hbl := Lib.byteCells_length l
  go_enter Tryz.func23, Tryz.ntmps23
  go_wp2_with (go_at_call 40; refine (check_any B b l _ h).mono ?_)
  rintro e w1 ⟨rfl, h1, hb1, kb1⟩
  obtain ⟨hB, v, hbk, hown, hne⟩ := h1
  have c0 : w1.cell? ⟨b, 0, none⟩ = some (.pointer (some ⟨b, 0, none⟩)) := by rw [Lib.cell_of_heap hbk]; rfl
  have c1 : w1.cell? ⟨b, 1, none⟩ = some v := by rw [Lib.cell_of_heap hbk]; rfl
  have hlt : b < w1.heap.size := (Array.getElem?_eq_some_iff.1 hbk).1
  have hown1 := World.ownsRow.alloc hown (.cells #[.int .u8 32] 5)
  have hbk1 : (w1.alloc (.cells #[.int .u8 32] 5)).heap[b]? = some (.cells #[.pointer (some ⟨b, 0, none⟩), v] 63 (0, 0)) := (Below.heap_alloc _ _ b hlt).trans hbk
  have hcell : ∀ j u, ([Value.int .u8 32] : List Value)[j]? = some u → (w1.alloc (.cells #[.int .u8 32] 5)).cell? ((⟨w1.heap.size, 0, none⟩ : Addr).add j) = some u := by
    intro j u hj
    match j, hj with
    | 0, hj =>
      injection hj with hj
      subst hj
      exact ((boxS_new w1 5 #[.int .u8 32]).cell 0).trans rfl
  have HC := Lib.hid hcell
  have HO1 := Lib.hid hown1
  have HB1 := Lib.hid hbk1
  have HN := Lib.hid hne
  have hBl := hb1.size
  clear hcell hown1 hbk1 hne hown hbk
  go_wp2_with (at_builtin; refine wpList_append_own _ rfl (.tmp 11) (.tmp 13) 61 rfl B 5 i0 (.int .u8 0) 1 1 Tryz.underlying61 hi hz0 hz1 hz2 rfl (by omega) _ _ _ rfl HO1.out ⟨w1.heap.size, 0, none⟩ 1 1 [.int .u8 32] rfl rfl HC.out (by intro u hu; rw [List.mem_singleton.1 hu]; rfl) ?c3 ?c4 ?c5 ?_)
  case c3 => unfold maxLen; omega
  case c4 => omega
  case c5 => simp; omega
  intro v' w2 hown' hgrow _
  have hb2 : w2.heap[b]? = some (.cells #[.pointer (some ⟨b, 0, none⟩), v] 63 (0, 0)) := (hgrow.block b (by simp; omega) (fun e => HN.out e.symm)).trans HB1.out
  have d0 : w2.cell? ⟨b, 0, none⟩ = some (.pointer (some ⟨b, 0, none⟩)) := by rw [Lib.cell_of_heap hb2]; rfl
  have d1 : w2.cell? ⟨b, 1, none⟩ = some v := by rw [Lib.cell_of_heap hb2]; rfl
  have f1 : w2.frozen? ⟨b, 1, none⟩ = false := Lib.frozen_of_heap hb2 1
  obtain ⟨ao, n', cap, rfl⟩ : ∃ ao n' cap, v' = .slice ao n' cap := by
    rcases hown'.2 with ⟨hv, _⟩ | ⟨g, cap, cur, hv, _⟩
    · exact ⟨_, _, _, hv⟩
    · exact ⟨_, _, _, hv⟩
  have e32 : Lib.byteCells l ++ [Value.int .u8 32] = Lib.byteCells (l ++ [32]) := by rw [byteCells_app]; rfl
  rw [e32] at hown'
  have HKb := Lib.hid (kb_t (kb_t kb1 (fun _ _ _ _ _ h => BoxS.alloc h _)) (kb_grow (b := b) HO1.out hgrow))
  have HO := Lib.hid hown'
  have HG := Lib.hid hgrow
  clear hown' hgrow e32 kb1
  go_wp2
  go_ret
  refine ⟨rfl, ?_, ?_, kb_t HKb.out (kb_set _)⟩
  · exact Lib.BuilderAt.put (T := 63) (e := 5) hB hb2 (bs' := Lib.byteCells (l ++ [32])) (by have := HO.out; rw [Lib.byteCells_length, List.length_append]; simpa [hbl] using this) (by decide)
  · exact ((hb1.alloc (by omega) _).grown HG.out (by simp; omega) (fun k hk => (HO1.out.lt k hk).1)).setCell (p := ⟨b, 1, none⟩) hB _
end Go.Proofs.YtbkbhlbfkfnljaaGreatDoor
/- The reference: which tokens are near, and equal lists of tokens. -/
set_option linter.unusedVariables false
set_option linter.unusedSimpArgs false
namespace Go.Proofs.YtbkbhlbfkfnljaaGreatDoor
open Go Go.RowKit L8

theorem eq_lit (l k : Bs) : ((strOf l).toList == k) = decide (l = k) := by
  rw [toList_strOf]; by_cases h : l = k <;> simp [h]
theorem kind_is (k m : Nat) : ((k : Int) == (m : Int)) = decide (k = m) := by by_cases h : k = m <;> simp [h] <;> omega
theorem near_as (a b : Tk) {B5 b40 b91 A1 A5 a40 a91 b44 b59 b58 b41 b93 : Bool} (h1 : decide (b.k = 5) = B5) (h2 : decide (b.tx = [40]) = b40) (h3 : decide (b.tx = [91]) = b91) (h4 : decide (a.k = 1) = A1) (h5 : decide (a.k = 5) = A5) (h6 : decide (a.tx = [40]) = a40) (h7 : decide (a.tx = [91]) = a91)
    (h8 : decide (b.tx = [44]) = b44) (h9 : decide (b.tx = [59]) = b59) (h10 : decide (b.tx = [58]) = b58) (h11 : decide (b.tx = [41]) = b41) (h12 : decide (b.tx = [93]) = b93) :
    near a b = (((B5 && (b40 || b91)) && A1) || (A5 && (a40 || a91)) || (B5 && (b44 || b59 || b58 || b41 || b93))) := by
  unfold near opens closes
  rw [h1, h2, h3, h4, h5, h6, h7, h8, h9, h10, h11, h12]
end Go.Proofs.YtbkbhlbfkfnljaaGreatDoor
