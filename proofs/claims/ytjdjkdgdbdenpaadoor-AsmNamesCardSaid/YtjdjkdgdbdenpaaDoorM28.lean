/- The builder of texts: what writing into it does. -/
import Derived.Lib.Builder
import Derived.Lib.AppendStr
import Derived.Laws.Externs
import Derived.Shelf.LaysM
import Derived.Test.YtjdjkdgdbdenpaaDoorM27
import Derived.Test.YtjdjkdgdbdenpaaDoorM21
import Derived.Test.YtjdjkdgdbdenpaaDoorShelf
import Derived.Test.YtjdjkdgdbdenpaaDoorM09
import Derived.Test.YtjdjkdgdbdenpaaDoorM26
set_option linter.unusedVariables false
set_option linter.unusedSimpArgs false
namespace Go.Proofs.YtjdjkdgdbdenpaaDoor
open Go Go.RowKit

theorem bld_size : (Tryd.prog.info? 64).map (·.size) = some 2 := by kernel_rfl
theorem bld_lies : liesAt Tryd.prog Tryd.prog.depth 64 (2 / Tryd.prog.cellsOf 64) 0 64 1 = true := by kernel_rfl
theorem byte_info : (Tryd.prog.info? 5).map (fun i => (i.zero, i.size, i.bytes)) = some (some (.int .u8 0), 1, 1) := by kernel_rfl
/-- A builder that has been written into. -/
def BldU (B b : Nat) (l : Bs) (w : World) : Prop := Lib.BuilderAt 64 5 B b (.pointer (some ⟨b, 0, none⟩)) (Lib.byteCells l) w
def BldI (B b : Nat) (l : Bs) (w : World) : Prop := Lib.IsBuilder 64 5 B b (Lib.byteCells l) w
set_option maxRecDepth 100000 in
theorem check_used (b : Nat) (w : World) (h0 : w.cell? ⟨b, 0, none⟩ = some (.pointer (some ⟨b, 0, none⟩))) :
    Calls Tryd.prog 41 #[.pointer (some ⟨b, 0, none⟩)] w fun e w' => e = .returned (.tuple #[]) ∧ w' = w := by
  obtain ⟨j, hj, _⟩ := Option.map_eq_some_iff.1 bld_size
  go_enter Tryd.func41, Tryd.ntmps41
  go_wp2
  rw [Lib.run_neq_ptr_same w _ Tryd.underlying62 hj]
  go_wp2
  go_end0
  exact ⟨rfl, rfl⟩
set_option maxRecDepth 100000 in
theorem check_fresh (b : Nat) (w : World) (h0 : w.cell? ⟨b, 0, none⟩ = some (.pointer none)) (hsh : w.shape? b = some (64, 2)) (hfz : w.frozen? ⟨b, 0, none⟩ = false) :
    Calls Tryd.prog 41 #[.pointer (some ⟨b, 0, none⟩)] w fun e w' => e = .returned (.tuple #[]) ∧ w' = w.setCell ⟨b, 0, none⟩ (.pointer (some ⟨b, 0, none⟩)) := by
  obtain ⟨j, hj, hjs⟩ := Option.map_eq_some_iff.1 bld_size
  go_enter Tryd.func41, Tryd.ntmps41
  go_wp2
  rw [Lib.run_to_unsafe w ⟨b, 0, none⟩ Tryd.underlying62 Tryd.underlying113 hj (by rw [hjs]; decide) hsh (Nat.zero_lt_succ 1)]
  simp only [Result.andThen]
  rw [Oper.upon_value]
  go_wp2
  rw [run_callFunc_extern Tryd.func59 (by kernel_rfl) (by kernel_rfl) (by kernel_rfl) (e := Extern.AbiNoEscape.same) (by kernel_rfl)]
  rw [Lib.run_noEscape]
  simp only [Result.andThen]
  rw [Oper.upon_value]
  go_wp2
  rw [Lib.run_from_unsafe w ⟨b, 0, none⟩ Tryd.underlying113 Tryd.underlying62 hj hsh bld_lies]
  simp only [Result.andThen]
  rw [Oper.upon_value]
  go_wp2
  go_end0
  exact ⟨rfl, rfl⟩
theorem check_any (B b : Nat) (l : Bs) (w : World) (h : BldI B b l w) :
    Calls Tryd.prog 41 #[.pointer (some ⟨b, 0, none⟩)] w fun e w' => e = .returned (.tuple #[]) ∧ BldU B b l w' ∧ Below B w w' := by
  rcases h with h | h
  · exact (check_fresh b w h.cell0 h.shape h.frozen0).mono (by rintro e w' ⟨rfl, rfl⟩; exact ⟨rfl, h.used _, (Below.refl B w).setCell (p := ⟨b, 0, none⟩) h.1 _⟩)
  · exact (check_used b w h.cell0).mono (by rintro e w' ⟨rfl, rfl⟩; exact ⟨rfl, h, Below.refl B _⟩)
theorem cells_str (l : Bs) : Lib.strCells (strOf l) = Lib.byteCells l := by simp [Lib.strCells, Lib.byteCells, strOf]
theorem byteCells_app (l k : Bs) : Lib.byteCells (l ++ k) = Lib.byteCells l ++ Lib.byteCells k := by simp [Lib.byteCells]
set_option maxRecDepth 100000 in
theorem write_any (B b : Nat) (l s : Bs) (w : World) (h : BldI B b l w) (hlen : l.length + s.length ≤ 1000000) (hBw : B ≤ w.heap.size) :
    Calls Tryd.prog 27 #[.pointer (some ⟨b, 0, none⟩), .string (strOf s)] w fun e w' => e = .returned (.tuple #[.int .i64 (s.length : Int), .nilIface]) ∧ BldU B b (l ++ s) w' ∧ Below B w w' := by
  obtain ⟨i0, hi, hz0, hz1, hz2⟩ := info_parts byte_info
  have hsz := size_strOf s
  have hbl := Lib.byteCells_length l
  go_enter Tryd.func27, Tryd.ntmps27
  go_wp2_with (go_at_call 41; refine (check_any B b l _ h).mono ?_)
  rintro e w1 ⟨rfl, h1, hb1⟩
  obtain ⟨hB, v, hbk, hown, hne⟩ := h1
  have c0 : w1.cell? ⟨b, 0, none⟩ = some (.pointer (some ⟨b, 0, none⟩)) := by rw [Lib.cell_of_heap hbk]; rfl
  have c1 : w1.cell? ⟨b, 1, none⟩ = some v := by rw [Lib.cell_of_heap hbk]; rfl
  go_wp2_with (at_builtin; refine Lib.wpList_append_own_string _ rfl _ _ 23 9 rfl B 5 i0 Tryd.underlying23 Tryd.underlying9 hi hz0 hz1 hz2 _ _ _ rfl hown (strOf s) rfl ?c3 ?c4 ?c5 ?_)
  case c3 => unfold maxLen; omega
  case c4 => omega
  case c5 => have := hb1.size; omega
  intro v' w2 hown' hgrow _
  have hlt : b < w1.heap.size := (Array.getElem?_eq_some_iff.1 hbk).1
  have hb2 : w2.heap[b]? = some (.cells #[.pointer (some ⟨b, 0, none⟩), v] 64 (0, 0)) := (hgrow.block b hlt (fun e => hne e.symm)).trans hbk
  have d0 : w2.cell? ⟨b, 0, none⟩ = some (.pointer (some ⟨b, 0, none⟩)) := by rw [Lib.cell_of_heap hb2]; rfl
  have d1 : w2.cell? ⟨b, 1, none⟩ = some v := by rw [Lib.cell_of_heap hb2]; rfl
  have f1 : w2.frozen? ⟨b, 1, none⟩ = false := Lib.frozen_of_heap hb2 1
  obtain ⟨ao, n', cap, rfl⟩ : ∃ ao n' cap, v' = .slice ao n' cap := by
    rcases hown'.2 with ⟨hv, _⟩ | ⟨g, cap, cur, hv, _⟩
    · exact ⟨_, _, _, hv⟩
    · exact ⟨_, _, _, hv⟩
  rw [cells_str, ← byteCells_app] at hown'
  have HO := Lib.hid hown'
  have HG := Lib.hid hgrow
  clear hown' hgrow
  go_wp2
  go_ret2
  refine ⟨rfl, ?_, ?_⟩
  · exact Lib.BuilderAt.put (T := 64) (e := 5) hB hb2 (bs' := Lib.byteCells (l ++ s)) (by have := HO.out; rw [Lib.byteCells_length, List.length_append]; exact this) (by decide)
  · exact (hb1.grown HG.out (by have := hb1.size; omega) (fun k hk => (hown.lt k hk).1)).setCell (p := ⟨b, 1, none⟩) hB _
theorem bldI_keep {B b : Nat} {l : Bs} {w w' : World} (h : BldI B b l w) (k : Below w.heap.size w w') : BldI B b l w' := by
  have key : ∀ p, Lib.BuilderAt 64 5 B b p (Lib.byteCells l) w → Lib.BuilderAt 64 5 B b p (Lib.byteCells l) w' := by
    rintro p ⟨hB, v, hb, ho, hn⟩
    exact ⟨hB, v, (k.block b (Array.getElem?_eq_some_iff.1 hb).1).trans hb, own_keepB ho k, hn⟩
  exact h.imp (key _) (key _)
end Go.Proofs.YtjdjkdgdbdenpaaDoor
/- The text of lines: by the program. -/
namespace Go.Proofs.YtjdjkdgdbdenpaaDoor
open Go Go.RowKit

def textL6 (ls : List Ln) : Bs := if ls.all vld = true then txt ls else []
def textE (ls : List Ln) : Int := if ls.all vld = true then 0 else 2
theorem txt_snoc {ls : List Ln} {k : Nat} (hk : k < ls.length) : txt (ls.take (k + 1)) = txt (ls.take k) ++ one (ls.getD k l0) := by
  have : ls.take (k + 1) = ls.take k ++ [ls.getD k l0] := by
    rw [List.take_succ_eq_append_getElem hk]
    simp [hk]
  rw [this]
  simp [txt]
theorem nm_le {x : Ln} (he : ex x.fn x.arg = true) : (nm x.fn x.arg).length ≤ 11 := (ex_facts (f := (x.fn : Int)) (by omega) he).2.2.2.2.1
theorem one_le {x : Ln} (hx : OKx x) (hv : vld x = true) : (one x).length ≤ 150 := by
  obtain ⟨hl, he, ht⟩ := vld_parts hv
  have l1 := orNone_len hl
  have l2 := nm_le he
  have lF : (front x).length ≤ 34 := by unfold front; split <;> simp; omega
  have lB : (body x).length ≤ 100 := by
    rcases ht with ⟨t1, t2⟩ | ⟨t1, t2, t3, t4⟩
    · rw [body_txL he t1]
      have := txL_le (f := (x.fn : Int)) (by omega) he hx.arg
      omega
    · have e1 := (isLab_len t1)
      have e2 := orNone_len t2
      have k1t : x.tgt.isEmpty = false := by cases hq : x.tgt with | nil => rw [hq] at t1; cases t1 | cons a b => rfl
      rw [body_tgt k1t t4]
      split <;> simp <;> omega
  unfold one
  simp
  omega
theorem txt_le {ls : List Ln} (ok : OKL ls) {k : Nat} (h : ∀ j, j < k → vld (ls.getD j l0) = true) (hk : k ≤ ls.length) : (txt (ls.take k)).length ≤ 150 * k := by
  induction k with
  | zero => simp [txt]
  | succ k ih =>
    rw [txt_snoc (by omega), List.length_append]
    have := ih (fun j hj => h j (by omega)) (by omega)
    have := one_le (ok.get k) (h k (by omega))
    omega
theorem bld_new (w : World) : BldI w.heap.size w.heap.size [] (w.alloc (.cells #[.pointer none, .slice none 0 0] 64)) := Lib.fresh_isBuilder 64 5 w
set_option maxRecDepth 100000 in
set_option maxHeartbeats 8000000 in
theorem AText_any {A : Option Addr} {c m : Nat} {ls : List Ln} {w : World} (R : RL w A c ls) (hm : ls.length = m) (h1 : m ≤ 1000) (hg : Good w) : Calls Tryd.prog 18 #[.slice A m c] w fun e w' => e = .returned (.tuple #[.string (strOf (textL6 ls)), .int .i64 (textE ls)]) ∧ Below w.heap.size w w' := by
  have HR := Lib.hid R
  have HM := Lib.hid hm
  have CT := Lib.hid (fun (k : Nat) (W : World) (b : Below w.heap.size w W) => textOf_any (ls.getD k l0) (R.ok.get k) W (hg.below b))
  have HL := Lib.hid (fun (k : Nat) (h : ∀ j, j < k → vld (ls.getD j l0) = true) (hk : k ≤ m) => Nat.le_trans (txt_le R.ok h (by omega)) (show 150 * k ≤ 150000 by omega))
  have HO := Lib.hid (fun (k : Nat) (h : vld (ls.getD k l0) = true) => one_le (R.ok.get k) h)
  have HN := Lib.hid (bld_new w)
  have HQ := Lib.hid (show (w.alloc (.cells #[.pointer none, .slice none 0 0] 64)).heap.size = w.heap.size + 1 by show (w.heap.push _).size = _; simp)
  clear R hm hg
  go_enter Tryd.func18, Tryd.ntmps18
  go_wp2
  go_loopw [11] (fun i wr => ∃ k : Nat, k ≤ m ∧ i = .int .i64 k ∧ Hid (Below w.heap.size w wr ∧ BldI w.heap.size w.heap.size (txt (ls.take k)) wr ∧ ∀ j, j < k → vld (ls.getD j l0) = true)) (fun i _ => m - (intOf i).toNat)
  case atStart => exact ⟨0, Nat.zero_le _, rfl, Lib.hid ⟨bal (b0 w) _, HN.out, fun j hj => absurd hj (by omega)⟩⟩
  case round =>
    obtain ⟨k, hk, rfl, H⟩ := hrel
    by_cases hlt : (k : Int) < (m : Int)
    · obtain ⟨ad, rfl, c0, c1, c2, c3, c4⟩ := (HR.out.keep H.out.1).rd k (by have := HM.out; omega)
      have hk0 : (0 : Int) ≤ (k : Int) := by omega
      have C1 := Lib.hid (CT.out k _ (bal H.out.1 (.cells #[.string (strOf (ls.getD k l0).lab), .int .u8 ((ls.getD k l0).fn : Int), .int .i32 (ls.getD k l0).arg, .string (strOf (ls.getD k l0).tgt), .string (strOf (ls.getD k l0).fr)] 39)))
      have HL1 := Lib.hid (HL.out k H.out.2.2 hk)
      have HO1 := Lib.hid (HO.out k)
      have HS := Lib.hid (txt_snoc (ls := ls) (k := k) (by have := HM.out; omega))
      have HV := Lib.hid H.out.2.2
      have HK := Lib.hid (fun (X : World) (b : Below wr.heap.size wr X) => And.intro (blw H.out.1 b) (bldI_keep H.out.2.1 b))
      have HB := Lib.hid H.out.1.size
      cases hv : vld (ls.getD k l0) with
      | true =>
        rw [hv, show oneT (ls.getD k l0) = one (ls.getD k l0) from if_pos hv] at C1
        rw [hv] at HO1
        have HVk := Lib.hid hv
        have hone := HO1.out rfl
        have htx := HL1.out
        clear hv H
        generalize hx : ls.getD k l0 = x at *
        have HX := Lib.hid hx
        clear hx
        generalize one x = T at *
        generalize hT : txt (ls.take k) = S at *
        have CW := Lib.hid (fun (X : World) (b : Below wr.heap.size wr X) => write_any w.heap.size w.heap.size S T X (HK.out X b).2 (by omega) (HK.out X b).1.size)
        clear hT htx hone
        go_wp2_with (first
          | (go_at_call 26; refine C1.out.mono ?_; rintro e w2 ⟨rfl, b2⟩; have B2 := Lib.hid (blw (bal (b0 wr) _) b2); clear b2)
          | (go_at_call 27; refine (CW.out _ B2.out).mono ?_; rintro e w3 ⟨rfl, u3, b3⟩; have B3 := Lib.hid (And.intro ((HK.out _ B2.out).1.trans b3) u3); clear b3 u3))
        go_roundw
        case rel =>
          refine ⟨k + 1, by omega, by go_num, Lib.hid ⟨B3.out.1, by rw [HS.out]; exact Or.inr B3.out.2, fun j hj => ?_⟩⟩
          by_cases h : j < k
          · exact HV.out j h
          · rw [show j = k by omega, HX.out]; exact HVk.out
        case measure => simp [intOf]; omega
      | false =>
        rw [hv, show oneT (ls.getD k l0) = [] from if_neg (by rw [hv]; decide)] at C1
        have hall : ¬ ls.all vld = true := fun h => by have := all_get h (show k < ls.length by have := HM.out; omega); rw [hv] at this; cases this
        have HE := Lib.hid (show textL6 ls = [] ∧ textE ls = 2 from ⟨if_neg hall, if_neg hall⟩)
        clear hv hall H
        generalize ls.getD k l0 = x at *
        go_wp2_with (go_at_call 26; refine C1.out.mono ?_; rintro e w2 ⟨rfl, b2⟩; have B2 := Lib.hid (blw (bal (b0 wr) _) b2); clear b2)
        go_ret2
        rw [HE.out.1, HE.out.2]
        exact ⟨rfl, (HK.out _ B2.out).1⟩
    · obtain rfl : k = m := by omega
      have hall : ls.all vld = true := all_ok (fun j hj => H.out.2.2 j (by rw [← HM.out]; exact hj))
      have ht : ls.take k = ls := List.take_of_length_le (by rw [HM.out]; exact Nat.le_refl _)
      have HE := Lib.hid (show textL6 ls = txt ls ∧ textE ls = 0 from ⟨if_pos hall, if_pos hall⟩)
      rw [ht] at H
      have CS := Lib.hid (Tryd.Builder_String_any w.heap.size w.heap.size (txt ls) wr H.out.2.1 H.out.1.size)
      have HB := Lib.hid H.out.1
      clear hall ht H
      go_wp2_with (go_at_call 28; refine CS.out.mono ?_; rintro e w2 ⟨rfl, b2⟩; have B2 := Lib.hid (HB.out.trans b2); clear b2)
      go_ret2
      rw [HE.out.1, HE.out.2]
      exact ⟨rfl, B2.out⟩
end Go.Proofs.YtjdjkdgdbdenpaaDoor
/- The line whose text a string may be: by the program. -/
namespace Go.Proofs.YtjdjkdgdbdenpaaDoor
open Go Go.RowKit

/-- The library's variable holds some number. -/
def MaxIs (w : World) : Prop := ∃ m : Int, w.cell? ⟨2, 0, none⟩ = some (.int .i64 m)
theorem MaxIs.below {w w' : World} (h : MaxIs w) (b : Below w.heap.size w w') : MaxIs w' := by
  obtain ⟨m, hm⟩ := h
  exact ⟨m, (b.cell (p := ⟨2, 0, none⟩) (g_lt hm)).trans hm⟩
def Good6 (w : World) : Prop := Good w ∧ MaxIs w
theorem Good6.below {w w' : World} (h : Good6 w) (b : Below w.heap.size w w') : Good6 w' := ⟨h.1.below b, h.2.below b⟩
theorem cutC (l sep : Bs) (w : World) (hm : MaxIs w) (hl : l.length ≤ 100000) :
    Calls Tryd.prog 44 #[.string (strOf l), .string (strOf sep)] w fun e w' => e = .returned (.tuple #[.string (strOf (Lib.cut l sep).1), .string (strOf (Lib.cut l sep).2.1), .bool (Lib.cut l sep).2.2]) ∧ Below w.heap.size w w' := by
  obtain ⟨m, hm⟩ := hm
  refine (Tryd.strings_Cut (strOf l) (strOf sep) m w (by rw [size_strOf]; omega) hm).mono ?_
  rintro e w' ⟨rfl, n, rfl⟩
  exact ⟨rfl, bdrew (b0 w) n⟩
theorem trimC (l sep : Bs) (w : World) (hl : l.length ≤ 100000) :
    Calls Tryd.prog 46 #[.string (strOf l), .string (strOf sep)] w fun e w' => e = .returned (.string (strOf (Lib.trimSuffix l sep))) ∧ w = w' := by
  refine (Tryd.strings_TrimSuffix (strOf l) (strOf sep) w (by rw [size_strOf]; omega)).mono ?_
  rintro e w' ⟨rfl, rfl⟩
  exact ⟨rfl, rfl⟩
theorem cut_len1 (l sep : Bs) : (Lib.cut l sep).1.length ≤ l.length := by
  unfold Lib.cut
  split
  · simp; omega
  · exact Nat.le_refl _
theorem cut_len2 (l sep : Bs) : (Lib.cut l sep).2.1.length ≤ l.length := by
  unfold Lib.cut
  split
  · simp
  · exact Nat.zero_le _
theorem rdI_nn (l : Bs) : 0 ≤ (rdI l).1 ∧ (rdI l).1 < 256 := by
  unfold rdI
  split
  · decide
  · rename_i p hp
    have := find_some hp
    split
    · split
      · decide
      · exact ⟨by show 0 ≤ p.1; omega, by show p.1 < 256; omega⟩
    · split
      · split
        · exact ⟨by show 0 ≤ p.1; omega, by show p.1 < 256; omega⟩
        · decide
      · decide
theorem insC_fn (l : Bs) : (insC l).fn < 256 ∧ isW (insC l).arg := by
  unfold insC isW
  split
  · have := nd_bd (Lib.cut l [32]).1
    exact ⟨by show (ndF _).toNat < 256; omega, by show (-2147483648 : Int) ≤ 0; decide, by show (0 : Int) ≤ 2147483647; decide⟩
  · have := rdI_nn l
    exact ⟨by show (rdI l).1.toNat < 256; omega, rdI_word l⟩
theorem box5f {W : World} {B : Nat} {t : TypeId} {cs : Array Value} (h : BoxS W B t cs) : W.frozen? ⟨B, 0, none⟩ = false ∧ W.frozen? ⟨B, 1, none⟩ = false ∧ W.frozen? ⟨B, 2, none⟩ = false ∧ W.frozen? ⟨B, 3, none⟩ = false ∧ W.frozen? ⟨B, 4, none⟩ = false :=
  ⟨h.frozen 0, h.frozen 1, h.frozen 2, h.frozen 3, h.frozen 4⟩
theorem box5_set1 {W : World} {B : Nat} {t : TypeId} {a b c d e : Value} (v : Value) (h : BoxS W B t #[a, b, c, d, e]) : BoxS (W.setCell ⟨B, 1, none⟩ v) B t #[a, v, c, d, e] := by
  obtain ⟨hlt, hk⟩ := Array.getElem?_eq_some_iff.1 h
  show (W.heap.modify B _)[B]? = _
  rw [Array.getElem?_eq_getElem (by rw [Array.size_modify]; exact hlt), Array.getElem_modify_self, hk]
  rfl
theorem box5_set0 {W : World} {B : Nat} {t : TypeId} {a b c d e : Value} (v : Value) (h : BoxS W B t #[a, b, c, d, e]) : BoxS (W.setCell ⟨B, 0, none⟩ v) B t #[v, b, c, d, e] := by
  obtain ⟨hlt, hk⟩ := Array.getElem?_eq_some_iff.1 h
  show (W.heap.modify B _)[B]? = _
  rw [Array.getElem?_eq_getElem (by rw [Array.size_modify]; exact hlt), Array.getElem_modify_self, hk]
  rfl
theorem box5_set2 {W : World} {B : Nat} {t : TypeId} {a b c d e : Value} (v : Value) (h : BoxS W B t #[a, b, c, d, e]) : BoxS (W.setCell ⟨B, 2, none⟩ v) B t #[a, b, v, d, e] := by
  obtain ⟨hlt, hk⟩ := Array.getElem?_eq_some_iff.1 h
  show (W.heap.modify B _)[B]? = _
  rw [Array.getElem?_eq_getElem (by rw [Array.size_modify]; exact hlt), Array.getElem_modify_self, hk]
  rfl
theorem box5_set3 {W : World} {B : Nat} {t : TypeId} {a b c d e : Value} (v : Value) (h : BoxS W B t #[a, b, c, d, e]) : BoxS (W.setCell ⟨B, 3, none⟩ v) B t #[a, b, c, v, e] := by
  obtain ⟨hlt, hk⟩ := Array.getElem?_eq_some_iff.1 h
  show (W.heap.modify B _)[B]? = _
  rw [Array.getElem?_eq_getElem (by rw [Array.size_modify]; exact hlt), Array.getElem_modify_self, hk]
  rfl
theorem box5_set4 {W : World} {B : Nat} {t : TypeId} {a b c d e : Value} (v : Value) (h : BoxS W B t #[a, b, c, d, e]) : BoxS (W.setCell ⟨B, 4, none⟩ v) B t #[a, b, c, d, v] := by
  obtain ⟨hlt, hk⟩ := Array.getElem?_eq_some_iff.1 h
  show (W.heap.modify B _)[B]? = _
  rw [Array.getElem?_eq_getElem (by rw [Array.size_modify]; exact hlt), Array.getElem_modify_self, hk]
  rfl
def set5 (W : World) (B : Nat) (a b c d e : Value) : World := ((((W.setCell ⟨B, 0, none⟩ a).setCell ⟨B, 1, none⟩ b).setCell ⟨B, 2, none⟩ c).setCell ⟨B, 3, none⟩ d).setCell ⟨B, 4, none⟩ e
theorem box5_all {W : World} {B : Nat} {t : TypeId} {a' b' c' d' e' : Value} (a b c d e : Value) (h : BoxS W B t #[a', b', c', d', e']) : BoxS (set5 W B a b c d e) B t #[a, b, c, d, e] :=
  box5_set4 _ (box5_set3 _ (box5_set2 _ (box5_set1 _ (box5_set0 _ h))))
theorem bset5 {n : Nat} {w W : World} (h : Below n w W) {B : Nat} (hB : n ≤ B) (a b c d e : Value) : Below n w (set5 W B a b c d e) :=
  bset (bset (bset (bset (bset h hB _) hB _) hB _) hB _) hB _
set_option maxRecDepth 100000 in
set_option maxHeartbeats 4000000 in
theorem insOf_any (l : Bs) (hl : l.length ≤ 100000) (w : World) (hg : Good6 w) : Calls Tryd.prog 45 #[.string (strOf l)] w fun e w' => e = .returned (lnV (insC l)) ∧ Below w.heap.size w w' := by
  have C1 := Lib.hid (fun (W : World) (b : Below w.heap.size w W) => cutC l [32] W (hg.2.below b) hl)
  have l2 := cut_len2 l [32]
  have C2 := Lib.hid (fun (W : World) (b : Below w.heap.size w W) => cutC (Lib.cut l [32]).2.1 [45] W (hg.2.below b) (by omega))
  have CR := Lib.hid (fun (W : World) (b : Below w.heap.size w W) => Read_is (strOf l) (by rw [size_strOf]; unfold maxLen; omega) W (hg.1.below b))
  have CN := Lib.hid (fun (W : World) (b : Below w.heap.size w W) => Named_any (strOf (Lib.cut l [32]).1) W (hg.1.1.below b))
  have hr := rdI_nn l
  have hn := nd_bd (Lib.cut l [32]).1
  unfold RetI at CR
  rw [show strOf [32] = (⟨#[32]⟩ : ByteArray) from rfl] at C1
  rw [show strOf [45] = (⟨#[45]⟩ : ByteArray) from rfl] at C2
  by_cases hf : firstLet (Lib.cut l [32]).2.1 = true
  · have HE := Lib.hid (show insC l = _ from if_pos hf)
    obtain ⟨c, cs, ho, hc⟩ : ∃ c cs, (Lib.cut l [32]).2.1 = c :: cs ∧ isLet c = true := by
      cases h : (Lib.cut l [32]).2.1 with
      | nil => rw [h] at hf; cases hf
      | cons c cs => rw [h] at hf; exact ⟨c, cs, rfl, hf⟩
    have CL := Lib.hid (fun W => isLetter_any c W)
    rw [hc] at CL
    have hi : ∀ W : World, (Instr.index 9 (.string (strOf (Lib.cut l [32]).2.1)) (.int .i64 0)).run Tryd.prog W = .ok (.int .u8 (c.toNat : Int)) W := fun W => by
      have := index_l (Lib.cut l [32]).2.1 0 (by rw [ho]; simp) W
      rw [ho] at this ⊢
      exact this
    have he := strOf_empty (Lib.cut l [32]).2.1
    rw [show (Lib.cut l [32]).2.1.isEmpty = false by rw [ho]; rfl] at he
    have HF := Lib.hid (show ((ndF (Lib.cut l [32]).1).toNat : Int) = ndF (Lib.cut l [32]).1 by omega)
    rw [show (strOf (Lib.cut l [32]).1).data.toList = (Lib.cut l [32]).1 from rfl] at CN
    clear hf ho hc hl hg l2 hr hn CR
    generalize (Lib.cut l [32]).1 = N at *
    generalize (Lib.cut l [32]).2.1 = O at *
    generalize (Lib.cut l [32]).2.2 = M at *
    generalize (Lib.cut O [45]).1 = T at *
    generalize (Lib.cut O [45]).2.1 = F at *
    generalize (Lib.cut O [45]).2.2 = M2 at *
    generalize ndA N = a1 at *
    generalize ndO N = o1 at *
    generalize (ndF N).toNat = f1 at *
    generalize ndF N = f at *
    obtain rfl := HF.out
    go_enter Tryd.func45, Tryd.ntmps45
    go_wp2_with (first
      | (go_at_call 44; (with_reducible refine (C1.out _ (bal (b0 w) _)).mono ?_); rintro e w1 ⟨rfl, b1⟩; have B1 := Lib.hid (blw (bal (b0 w) _) b1); have X1 := Lib.hid (BoxS.below (boxS_new w _ _) b1); obtain ⟨⟨x0, x1, x2, x3, x4⟩, x5⟩ := box5l b1; clear b1)
      | (go_at_call 63; refine (CL.out _).mono ?_; rintro e w2 ⟨rfl, rfl⟩)
      | (go_at_call 65; refine (CN.out _ B1.out).mono ?_; rintro e w3 ⟨rfl, b3⟩; have B3 := Lib.hid (blw B1.out b3); have Y3 := Lib.hid ((X1.out.below b3).below (bal (b0 w3) (.cells #[.int .u8 (f1 : Int), .int .i32 a1] 35))); obtain ⟨⟨y0, y1, y2, y3, y4⟩, y5⟩ := box5c Y3.out; have yf := BoxS.frozen Y3.out 1; have Z3 := Lib.hid (box5_set1 (.int .u8 (f1 : Int)) Y3.out); have C3 := Lib.hid (C2.out _ (bset (bal B3.out (.cells #[.int .u8 (f1 : Int), .int .i32 a1] 35)) (Nat.le_refl _) (j := 1) (.int .u8 (f1 : Int)))); clear b3)
      | (go_at_call 44; (with_reducible refine C3.out.mono ?_); rintro e w4 ⟨rfl, b4⟩; have B4 := Lib.hid (blw (bset (bal B3.out (.cells #[.int .u8 (f1 : Int), .int .i32 a1] 35)) (Nat.le_refl _) (j := 1) (.int .u8 (f1 : Int))) b4); have Y4 := Lib.hid (Z3.out.below b4); obtain ⟨⟨z0, z1, z2, z3, z4⟩, z5⟩ := box5c Y4.out; obtain ⟨ze, zf, zg, zh, zi⟩ := box5f Y4.out; clear b4))
    have HF5 := Lib.hid (And.intro (box5_all (.string ⟨#[]⟩) (.int .u8 (f1 : Int)) (.int .i32 0) (.string (strOf T)) (.string (strOf F)) (box5_set4 (.string (strOf F)) (box5_set3 (.string (strOf T)) Y4.out))) (bset5 (bset (bset B4.out (Nat.le_refl _) (j := 3) (.string (strOf T))) (Nat.le_refl _) (j := 4) (.string (strOf F))) (Nat.le_refl _) (.string ⟨#[]⟩) (.int .u8 (f1 : Int)) (.int .i32 0) (.string (strOf T)) (.string (strOf F))))
    unfold set5 at HF5
    clear z0 z1 z2 z3 z4 z5 ze zf zg zh zi y0 y1 y2 y3 y4 y5 yf Z3 Y3 C3 Y4 B4
    generalize (((((((w4.setCell ⟨w.heap.size, 3, none⟩ (.string (strOf T))).setCell ⟨w.heap.size, 4, none⟩ (.string (strOf F))).setCell ⟨w.heap.size, 0, none⟩ (.string ⟨#[]⟩)).setCell ⟨w.heap.size, 1, none⟩ (.int .u8 (f1 : Int))).setCell ⟨w.heap.size, 2, none⟩ (.int .i32 0)).setCell ⟨w.heap.size, 3, none⟩ (.string (strOf T))).setCell ⟨w.heap.size, 4, none⟩ (.string (strOf F))) = W5 at *
    obtain ⟨⟨z0, z1, z2, z3, z4⟩, z5⟩ := box5c HF5.out.1
    refine bodyPost_ret (v := lnV ⟨[], f1, 0, T, F⟩) (by simp [results, Tryd.results45, go_sem, z0, z1, z2, z3, z4]; rfl) rfl ?_
    rw [HE.out]
    exact ⟨rfl, HF5.out.2⟩
  · have HE := Lib.hid (show insC l = _ from if_neg hf)
    have he := strOf_empty (Lib.cut l [32]).2.1
    have HF := Lib.hid (show ((rdI l).1.toNat : Int) = (rdI l).1 by omega)
    rw [show (strOf l).data.toList = l from rfl] at CR
    cases ho : (Lib.cut l [32]).2.1 with
    | nil =>
      rw [ho] at he
      rw [ho] at C1
      simp only [List.isEmpty_nil] at he
      clear hf ho hl hg l2 hr hn CN C2
      generalize (Lib.cut l [32]).1 = N at *
      generalize (Lib.cut l [32]).2.2 = M at *
      generalize (rdI l).1.toNat = f1 at *
      generalize (rdI l).1 = f at *
      obtain rfl := HF.out
      generalize (rdI l).2.1 = a1 at *
      generalize (rdI l).2.2 = e1 at *
      go_enter Tryd.func45, Tryd.ntmps45
      go_wp2_with (first
        | (go_at_call 44; (with_reducible refine (C1.out _ (bal (b0 w) _)).mono ?_); rintro e w1 ⟨rfl, b1⟩; have B1 := Lib.hid (blw (bal (b0 w) _) b1); have X1 := Lib.hid (BoxS.below (boxS_new w _ _) b1); clear b1)
        | (go_at_call 64; refine (CR.out _ B1.out).mono ?_; rintro e w3 ⟨rfl, b3⟩; have B3 := Lib.hid (blw B1.out b3); have Y3 := Lib.hid ((X1.out.below b3).below (bal (b0 w3) (.cells #[.int .u8 (f1 : Int), .int .i32 a1] 35))); obtain ⟨⟨y0, y1, y2, y3, y4⟩, y5⟩ := box5c Y3.out; obtain ⟨ze, zf, zg, zh, zi⟩ := box5f Y3.out; clear b3))
      have HF5 := Lib.hid (And.intro (box5_all (.string ⟨#[]⟩) (.int .u8 (f1 : Int)) (.int .i32 a1) (.string ⟨#[]⟩) (.string ⟨#[]⟩) Y3.out) (bset5 (bal B3.out (.cells #[.int .u8 (f1 : Int), .int .i32 a1] 35)) (Nat.le_refl _) (.string ⟨#[]⟩) (.int .u8 (f1 : Int)) (.int .i32 a1) (.string ⟨#[]⟩) (.string ⟨#[]⟩)))
      unfold set5 at HF5
      clear y0 y1 y2 y3 y4 y5 ze zf zg zh zi Y3
      generalize ((((((w3.alloc (.cells #[.int .u8 (f1 : Int), .int .i32 a1] 35)).setCell ⟨w.heap.size, 0, none⟩ (.string ⟨#[]⟩)).setCell ⟨w.heap.size, 1, none⟩ (.int .u8 (f1 : Int))).setCell ⟨w.heap.size, 2, none⟩ (.int .i32 a1)).setCell ⟨w.heap.size, 3, none⟩ (.string ⟨#[]⟩)).setCell ⟨w.heap.size, 4, none⟩ (.string ⟨#[]⟩)) = W5 at *
      obtain ⟨⟨z0, z1, z2, z3, z4⟩, z5⟩ := box5c HF5.out.1
      refine bodyPost_ret (v := lnV ⟨[], f1, a1, [], []⟩) (by simp [results, Tryd.results45, go_sem, z0, z1, z2, z3, z4]; rfl) rfl ?_
      rw [HE.out]
      exact ⟨rfl, HF5.out.2⟩
    | cons c cs =>
      have hc : isLet c = false := by
        rw [ho] at hf
        exact Bool.eq_false_iff.2 hf
      have CL := Lib.hid (fun W => isLetter_any c W)
      rw [hc] at CL
      have hi : ∀ W : World, (Instr.index 9 (.string (strOf (c :: cs))) (.int .i64 0)).run Tryd.prog W = .ok (.int .u8 (c.toNat : Int)) W := fun W => index_l (c :: cs) 0 (by simp) W
      rw [ho] at he
      rw [ho] at C1
      simp only [List.isEmpty_cons] at he
      clear hf ho hc hl hg l2 hr hn CN C2
      generalize c :: cs = O at *
      generalize (Lib.cut l [32]).1 = N at *
      generalize (Lib.cut l [32]).2.2 = M at *
      generalize (rdI l).1.toNat = f1 at *
      generalize (rdI l).1 = f at *
      obtain rfl := HF.out
      generalize (rdI l).2.1 = a1 at *
      generalize (rdI l).2.2 = e1 at *
      go_enter Tryd.func45, Tryd.ntmps45
      go_wp2_with (first
        | (go_at_call 44; (with_reducible refine (C1.out _ (bal (b0 w) _)).mono ?_); rintro e w1 ⟨rfl, b1⟩; have B1 := Lib.hid (blw (bal (b0 w) _) b1); have X1 := Lib.hid (BoxS.below (boxS_new w _ _) b1); clear b1)
        | (go_at_call 63; refine (CL.out _).mono ?_; rintro e w2 ⟨rfl, rfl⟩)
        | (go_at_call 64; refine (CR.out _ B1.out).mono ?_; rintro e w3 ⟨rfl, b3⟩; have B3 := Lib.hid (blw B1.out b3); have Y3 := Lib.hid ((X1.out.below b3).below (bal (b0 w3) (.cells #[.int .u8 (f1 : Int), .int .i32 a1] 35))); obtain ⟨⟨y0, y1, y2, y3, y4⟩, y5⟩ := box5c Y3.out; obtain ⟨ze, zf, zg, zh, zi⟩ := box5f Y3.out; clear b3))
      have HF5 := Lib.hid (And.intro (box5_all (.string ⟨#[]⟩) (.int .u8 (f1 : Int)) (.int .i32 a1) (.string ⟨#[]⟩) (.string ⟨#[]⟩) Y3.out) (bset5 (bal B3.out (.cells #[.int .u8 (f1 : Int), .int .i32 a1] 35)) (Nat.le_refl _) (.string ⟨#[]⟩) (.int .u8 (f1 : Int)) (.int .i32 a1) (.string ⟨#[]⟩) (.string ⟨#[]⟩)))
      unfold set5 at HF5
      clear y0 y1 y2 y3 y4 y5 ze zf zg zh zi Y3
      generalize ((((((w3.alloc (.cells #[.int .u8 (f1 : Int), .int .i32 a1] 35)).setCell ⟨w.heap.size, 0, none⟩ (.string ⟨#[]⟩)).setCell ⟨w.heap.size, 1, none⟩ (.int .u8 (f1 : Int))).setCell ⟨w.heap.size, 2, none⟩ (.int .i32 a1)).setCell ⟨w.heap.size, 3, none⟩ (.string ⟨#[]⟩)).setCell ⟨w.heap.size, 4, none⟩ (.string ⟨#[]⟩)) = W5 at *
      obtain ⟨⟨z0, z1, z2, z3, z4⟩, z5⟩ := box5c HF5.out.1
      refine bodyPost_ret (v := lnV ⟨[], f1, a1, [], []⟩) (by simp [results, Tryd.results45, go_sem, z0, z1, z2, z3, z4]; rfl) rfl ?_
      rw [HE.out]
      exact ⟨rfl, HF5.out.2⟩
end Go.Proofs.YtjdjkdgdbdenpaaDoor
