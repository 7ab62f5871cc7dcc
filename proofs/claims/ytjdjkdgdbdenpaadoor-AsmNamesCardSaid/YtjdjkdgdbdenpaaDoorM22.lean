/- The reference's lengths of lines. -/
import Derived.Maps.Own
import Derived.Maps.OwnSet
import Derived.Maps.OwnOps
import Derived.Maps.Views
import Derived.StringKeys
import Derived.Test.YtjdjkdgdbdenpaaDoorM21
set_option linter.unusedVariables false
set_option linter.unusedSimpArgs false
namespace Go.Proofs.YtjdjkdgdbdenpaaDoor
open Go Go.RowKit
open C4 (add_plain)

def meas (v : Value) (W : World) : Nat := match v with
  | .slice (some ad) n _ => ((List.range n).map fun j => match W.cell? (ad.add j) with | some (.int _ x) => x.toNat | _ => 0).sum
  | _ => 0
theorem sum_range (ns : List Nat) : ((List.range ns.length).map fun j => ns.getD j 0) = ns := by
  apply List.ext_getElem (by simp)
  intro i h1 h2
  simp [h2]
theorem meas_rn {W : World} {A : Option Addr} {c n : Nat} {ns : List Nat} (S : RN W A c ns) (hn : ns.length = n) : meas (.slice A n c) W = ns.sum := by
  subst hn
  cases A with
  | none =>
    have h0 : ns = [] := by
      rcases Nat.eq_zero_or_pos ns.length with h | h
      · exact List.eq_nil_of_length_eq_zero h
      · obtain ⟨ad, e, _⟩ := S.rd 0 h; cases e
    subst h0; rfl
  | some ad =>
    show ((List.range ns.length).map _).sum = _
    conv => rhs; rw [← sum_range ns]
    congr 1
    apply List.map_congr_left
    intro j hj
    obtain ⟨ad', e, hc⟩ := S.rd j (List.mem_range.1 hj)
    cases e
    rw [hc]
    simp
theorem own_lowerN {w' : World} {B B' n c : Nat} {A : Option Addr} {xs : List Nat} (h : B ≤ B') (o : OwnN w' B' A n c xs) : OwnN w' B A n c xs :=
  ⟨o.1, o.2.imp id (fun ⟨g, cap, cur, h1, h2, h3⟩ => ⟨g, cap, cur, h1, Nat.le_trans h h2, h3⟩)⟩
def lenR (ls : List Ln) : List Nat := if chk ls = 0 then lens ls else []
theorem lenR_ok {ls : List Ln} (h : chk ls = 0) : lenR ls = lens ls := if_pos h
theorem lenR_no {ls : List Ln} (h : ¬ chk ls = 0) : lenR ls = [] := if_neg h
/-- New numbers were made, and an error. -/
def GivesNE (w : World) (ns : List Nat) (er : Int) (e : Ending) (w' : World) : Prop := ∃ A c, e = .returned (.tuple #[.slice A ns.length c, .int .i64 er]) ∧ OwnN w' w.heap.size A ns.length c ns ∧ Below w.heap.size w w'
theorem rep_one (k : Nat) : List.replicate k 1 ++ [1] = List.replicate (k + 1) 1 := by rw [List.replicate_succ']
end Go.Proofs.YtjdjkdgdbdenpaaDoor
/- The reference's code of lines. -/
namespace Go.Proofs.YtjdjkdgdbdenpaaDoor
open Go Go.RowKit

def insL (ls : List Ln) : List C4.II := (List.range ls.length).map fun i => ((ls.getD i l0).fn, opd ls (lens ls) i)
def atL (ls : List Ln) : List Nat := (List.range ls.length).map (adr (lens ls))
def codeR (ls : List Ln) : List Nat := if chk ls = 0 then C4.jl (insL ls) else []
def atR (ls : List Ln) : List Nat := if chk ls = 0 then atL ls else []
theorem insL_len (ls : List Ln) : (insL ls).length = ls.length := by simp [insL]
theorem atL_len (ls : List Ln) : (atL ls).length = ls.length := by simp [atL]
theorem range_snoc {α : Type} (f : Nat → α) {n k : Nat} (hk : k < n) : ((List.range n).map f).take (k + 1) = ((List.range n).map f).take k ++ [f k] := by
  rw [List.take_succ_eq_append_getElem (by simpa using hk)]
  simp
theorem jl_one (l : List C4.II) (f : Nat) (v : Int) : C4.jl (l ++ [(f, v)]) = C4.jl l ++ C4.enc f v := by rw [C4.jl_app]; simp [C4.jl]
theorem bdrew1 {n : Nat} {w w1 : World} (h : Below n w w1) : Below n w w1.drew := bdrew h 1
/-- Two rows of different types: what is done to the one leaves the other. -/
theorem own_other {w w' : World} {B B' n n' s s' : Nat} {e e' : TypeId} {v v' : Value} {xs xs' : List Value} (h : w.ownsRow B e s v n xs) (h' : w.ownsRow B' e' s' v' n' xs') (hne : e ≠ e') (g : w.grownBy w' v'.ownBlock) : w'.ownsRow B e s v n xs := by
  refine h.kept g ?_
  rcases h.2 with ⟨rfl, _⟩ | ⟨g1, cap, cur, rfl, _, hh, _⟩
  · exact .inl rfl
  · right
    intro he
    rcases h'.2 with ⟨rfl, _⟩ | ⟨g2, cap2, cur2, rfl, _, hh2, _⟩
    · cases he
    · have : g1 = g2 := by simpa [Value.ownBlock] using he
      subst this
      rw [hh] at hh2
      injection hh2 with hh2
      injection hh2 with _ h2
      exact hne h2
theorem rPut_is {f : Nat} {v : Int} (hf : C4.valid f = true) (hv : isW v) (w : World) : Calls Tryd.prog 36 #[.agg #[.int .u8 (f : Int), .int .i32 v]] w (C4.Gives w 0 (C4.enc f v)) := by
  have C := C4.rPut_any f hv w
  rwa [show C4.pe f = 0 from if_pos hf, show C4.pt f v = C4.enc f v from if_pos hf] at C
/-- New bytes and new numbers were made, and an error. -/
def GivesBN (w : World) (ys : List Nat) (ns : List Nat) (er : Int) (e : Ending) (w' : World) : Prop :=
  ∃ A c A' c', e = .returned (.tuple #[.slice A ys.length c, .slice A' ns.length c', .int .i64 er]) ∧ C4.RS w' A c ys ∧ RN w' A' c' ns ∧ Below w.heap.size w w'
theorem insL_ok {ls : List Ln} (F : Fit ls) (ok : OKL ls) : C4.OKI (insL ls) := by
  intro p hp
  obtain ⟨i, hi, rfl⟩ := List.mem_map.1 hp
  rw [List.mem_range] at hi
  exact ⟨(ok.get i).fn, opd_word F (b := 8) (by omega) (lens_low F).le8 hi⟩
theorem jl_take_len {l : List C4.II} (h : C4.OKI l) (k : Nat) : (C4.jl (l.take k)).length ≤ 8 * l.length := Nat.le_trans (C4.jl_mono k) (C4.jl_len h)
theorem insL_av {ls : List Ln} (F : Fit ls) : C4.av (insL ls) = true := by
  unfold C4.av
  rw [List.all_eq_true]
  intro p hp
  obtain ⟨i, hi, rfl⟩ := List.mem_map.1 hp
  rw [List.mem_range] at hi
  exact F.vl i hi
end Go.Proofs.YtjdjkdgdbdenpaaDoor
/- Labels are looked up in a map. -/
namespace Go.Proofs.YtjdjkdgdbdenpaaDoor
open Go Go.RowKit Go.Maps

theorem mapLaw : Keyed Tryd.prog 9 := string_keyed Tryd.underlying9
theorem key_of {l : Bs} (h : l.length ≤ maxLen) : keyOf Tryd.prog 9 (.string (strOf l)) = some (.string l) := by
  have := Go.WideMaps.keyOf_string_mk (P := Tryd.prog) (k := 9) Tryd.underlying9 (s := strOf l) (by rw [size_strOf]; exact h)
  rwa [strOf_data] at this
abbrev num (i : Nat) : DataW Unit := .lit (.int .i64 (i : Int))
/-- A map holds the labels of lines, each with the number of its line. -/
def MR (D : DataW Unit) (ls : List Ln) : Prop := Tidy D ∧ ∀ n : Bs, n ≠ [] → Maps.has D (.string n) = (fnd ls n).isSome ∧ ∀ i, fnd ls n = some i → D.atKey (.string n) (.lit (.int .i64 0)) = num i
theorem mr_empty : MR (.map []) [] := ⟨tidy_empty, fun n _ => ⟨rfl, fun i h => by simp [fnd] at h⟩⟩
theorem fnd_take {ls : List Ln} {k : Nat} (hk : k < ls.length) (n : Bs) : fnd (ls.take (k + 1)) n = if (fnd (ls.take k) n).isSome = true then fnd (ls.take k) n else if (ls.getD k l0).lab = n then some k else none := by
  have e : ls.take (k + 1) = ls.take k ++ [ls.getD k l0] := by
    rw [List.take_succ_eq_append_getElem hk]
    simp [hk]
  rw [e]
  generalize ls.getD k l0 = y
  have hlen : (ls.take k).length = k := by rw [List.length_take]; omega
  unfold fnd
  rw [List.findIdx?_append, hlen]
  cases h : List.findIdx? (fun x => decide (x.lab = n)) (ls.take k) with
  | some i => simp
  | none =>
    by_cases hl : y.lab = n
    · simp [hl, List.findIdx?_cons]
    · simp [hl, List.findIdx?_cons]
theorem mr_skip {D : DataW Unit} {ls : List Ln} {k : Nat} (hk : k < ls.length) (h : MR D (ls.take k)) (h0 : (ls.getD k l0).lab = []) : MR D (ls.take (k + 1)) := by
  refine ⟨h.1, fun n hn => ?_⟩
  have e : fnd (ls.take (k + 1)) n = fnd (ls.take k) n := by
    rw [fnd_take hk]
    split
    · rfl
    · rename_i hs
      rw [if_neg (by rw [h0]; exact fun e => hn e.symm)]
      cases hf : fnd (ls.take k) n with
      | none => rfl
      | some i => rw [hf] at hs; exact absurd rfl hs
  rw [e]
  exact h.2 n hn
theorem mr_put {D : DataW Unit} {ls : List Ln} {k : Nat} (hk : k < ls.length) (h : MR D (ls.take k)) (h1 : fnd (ls.take k) (ls.getD k l0).lab = none) : MR (D.put (.string (ls.getD k l0).lab) (num k)) (ls.take (k + 1)) := by
  refine ⟨h.1.put (show WideAt.IsKeyLit (.string _) from trivial) _, fun n hn => ?_⟩
  rw [fnd_take hk]
  by_cases hq : n = (ls.getD k l0).lab
  · subst hq
    rw [h1, if_neg (by decide), if_pos rfl]
    refine ⟨has_put_same h.1.isMap (show WideAt.IsKeyLit (.string _) from trivial) _, fun i hi => ?_⟩
    injection hi with hi
    subst hi
    exact atKey_put_same h.1.isMap (show WideAt.IsKeyLit (.string _) from trivial) _ _
  · have hne : (.string n : Lit) ≠ .string (ls.getD k l0).lab := fun e => hq (by injection e)
    have e : (if (fnd (ls.take k) n).isSome = true then fnd (ls.take k) n else if (ls.getD k l0).lab = n then some k else none) = fnd (ls.take k) n := by
      split
      · rfl
      · rename_i hs
        rw [if_neg (fun e => hq e.symm)]
        cases hf : fnd (ls.take k) n with
        | none => rfl
        | some i => rw [hf] at hs; exact absurd rfl hs
    rw [e, has_put_other hne]
    refine ⟨(h.2 n hn).1, fun i hi => ?_⟩
    rw [atKey_put_other hne]
    exact (h.2 n hn).2 i hi
theorem fnd_of_take {ls : List Ln} {k i : Nat} {n : Bs} (h : fnd (ls.take k) n = some i) : fnd ls n = some i ∧ i < k := by
  obtain ⟨h1, h2, h3⟩ := fnd_some h
  have hl : i < ls.length ∧ i < k := by rw [List.length_take] at h1; omega
  have e : ∀ j, j < k → (ls.take k).getD j l0 = ls.getD j l0 := fun j hj => by
    simp only [List.getD_eq_getElem?_getD]
    rw [List.getElem?_take, if_pos hj]
  refine ⟨fnd_hit hl.1 (fun j hj => ?_) ?_, hl.2⟩
  · rw [← e j (by omega)]; exact h3 j hj
  · rw [← e i hl.2]; exact h2
theorem fnd_first {ls : List Ln} {k : Nat} (hk : k < ls.length) (h : fnd (ls.take k) (ls.getD k l0).lab = none) : fnd ls (ls.getD k l0).lab = some k := by
  refine fnd_hit hk (fun j hj => ?_) rfl
  have := fnd_none h j (by rw [List.length_take]; omega)
  have e : (ls.take k).getD j l0 = ls.getD j l0 := by
    simp only [List.getD_eq_getElem?_getD]
    rw [List.getElem?_take, if_pos hj]
  rwa [e] at this
/-- No two of the first k lines have the same label. -/
def Uq (ls : List Ln) (k : Nat) : Prop := ∀ j, j < k → (ls.getD j l0).lab.isEmpty = true ∨ fnd ls (ls.getD j l0).lab = some j
/-- The labels as a map: in a block of the call's own. -/
def GivesM (w : World) (ls : List Ln) (e : Ending) (w' : World) : Prop :=
  (Uq ls ls.length ∧ ∃ b n D, e = .returned (.tuple #[.map (some b), .bool true]) ∧ w'.ownsMap Tryd.prog 9 (plainElem Tryd.prog 3) b n D ∧ MR D ls ∧ Below w.heap.size w w') ∨
  (¬ Uq ls ls.length ∧ e = .returned (.tuple #[.map none, .bool false]) ∧ Below w.heap.size w w')
/-- What the loop keeps. -/
def PL (w : World) (ls : List Ln) (k : Nat) (wr : World) : Prop := (Below w.heap.size w wr ∧ Uq ls k) ∧ ∃ n D, n ≤ k ∧ wr.ownsMap Tryd.prog 9 (plainElem Tryd.prog 3) w.heap.size n D ∧ MR D (ls.take k)
theorem wf_nat {k : Nat} (h : k ≤ 1000000) : (Lit.int .i64 (k : Int)).wf = true := by
  simp [Lit.wf, IntKind.min, IntKind.max, IntKind.signed, IntKind.bits]
  omega
set_option maxRecDepth 100000 in
set_option maxHeartbeats 4000000 in
theorem placesOf_any {A : Option Addr} {c m : Nat} {ls : List Ln} {w : World} (R : RL w A c ls) (hm : ls.length = m) (h1 : m ≤ 100000) : Calls Tryd.prog 47 #[.slice A m c] w (GivesM w ls) := by
  have HR := Lib.hid R
  have HM := Lib.hid hm
  clear R hm
  have hmm := @run_makeMap Tryd.prog
  have B0 := Lib.hid (bal (b0 w) (.map #[] 0))
  have O0 := Lib.hid (World.ownsMap_made (H := Unit) w Tryd.prog 9 (plainElem Tryd.prog 3))
  go_enter Tryd.func47, Tryd.ntmps47
  go_wp2
  go_loopw [2, 11] (fun pl i wr => pl = .map (some w.heap.size) ∧ ∃ k : Nat, k ≤ m ∧ i = .int .i64 k ∧ Hid (PL w ls k wr)) (fun _ i _ => m - (intOf i).toNat)
  case atStart => exact ⟨rfl, 0, Nat.zero_le _, rfl, Lib.hid ⟨⟨B0.out, fun j hj => absurd hj (by omega)⟩, 0, .map [], Nat.le_refl _, O0.out, mr_empty⟩⟩
  case round =>
    obtain ⟨rfl, k, hk, rfl, H⟩ := hrel
    by_cases hlt : (k : Int) < (m : Int)
    · obtain ⟨ad, rfl, c0, c1, c2, c3, c4⟩ := (HR.out.keep H.out.1.1).rd k (by have := HM.out; omega)
      have hkl : k < ls.length := by have := HM.out; omega
      have he := strOf_empty (ls.getD k l0).lab
      have hk0 : (0 : Int) ≤ (k : Int) := by omega
      have BX := Lib.hid (bal H.out.1.1 (.cells #[.string (strOf (ls.getD k l0).lab), .int .u8 ((ls.getD k l0).fn : Int), .int .i32 (ls.getD k l0).arg, .string (strOf (ls.getD k l0).tgt), .string (strOf (ls.getD k l0).fr)] 39))
      by_cases hl : (ls.getD k l0).lab = []
      · have HX := Lib.hid (show Uq ls (k + 1) from fun j hj => if h : j < k then H.out.1.2 j h else by rw [show j = k by omega]; left; rw [hl]; rfl)
        have HS := Lib.hid (fun (D : DataW Unit) (h : MR D (ls.take k)) => mr_skip hkl h hl)
        rw [show (ls.getD k l0).lab.isEmpty = true by rw [hl]; rfl] at he
        clear hl hkl
        generalize ls.getD k l0 = x at *
        go_wp2
        go_roundw
        case rel =>
          obtain ⟨_, n, D, hn, ho, hr⟩ := H.out
          exact ⟨rfl, k + 1, by omega, by go_num, Lib.hid ⟨⟨BX.out, HX.out⟩, n, D, by omega, ho.alloc _, HS.out D hr⟩⟩
        case measure => simp [intOf]; omega
      · have he' : (ls.getD k l0).lab.isEmpty = false := by cases hq : (ls.getD k l0).lab with | nil => exact absurd hq hl | cons a b => rfl
        rw [he'] at he
        have KEY := Lib.hid (key_of (HR.out.ok.get k).lab)
        obtain ⟨_, n, D, hn, ho, hr⟩ := H.out
        obtain ⟨hhas, hat0⟩ := hr.2 _ hl
        have HO := Lib.hid ho
        have HN := Lib.hid (And.intro hn hr)
        have hU := H.out.1.2
        cases hf : fnd (ls.take k) (ls.getD k l0).lab with
        | some i =>
          rw [hf] at hhas
          have HX := Lib.hid (show ¬ Uq ls ls.length from fun h => by
            rcases h k hkl with h | h
            · rw [he'] at h; cases h
            · have h2 := fnd_of_take hf
              rw [h2.1] at h
              injection h with h
              omega)
          have hb : Maps.has D (.string (ls.getD k l0).lab) = true := hhas
          clear hl hkl hf hhas he' hr ho hn hat0 hU
          generalize ls.getD k l0 = x at *
          go_wp2_with (at_lookup; refine wpList_lookup_own_ok_int _ rfl _ _ 96 rfl 9 3 .i64 mapLaw Tryd.underlying96 Tryd.underlying3 (Tryd.zeroValue3 _) w.heap.size n D rfl (HO.out.alloc _) _ (.string x.lab) rfl KEY.out ?_; intro cc hat hwc; clear hat hwc; rw [hb])
          go_ret2
          unfold GivesM
          exact .inr ⟨HX.out, rfl, BX.out⟩
        | none =>
          rw [hf] at hhas
          have HX := Lib.hid (show Uq ls (k + 1) from fun j hj => if h : j < k then hU j h else by rw [show j = k by omega]; right; exact fnd_first hkl hf)
          have hb : Maps.has D (.string (ls.getD k l0).lab) = false := hhas
          have HS := Lib.hid (mr_put hkl HN.out.2 hf)
          clear hl hkl hf hhas he' hr ho hn hat0 hU
          generalize ls.getD k l0 = x at *
          go_wp2_with (first
            | (at_lookup; refine wpList_lookup_own_ok_int _ rfl _ _ 96 rfl 9 3 .i64 mapLaw Tryd.underlying96 Tryd.underlying3 (Tryd.zeroValue3 _) w.heap.size n D rfl (HO.out.alloc _) _ (.string x.lab) rfl KEY.out ?_; intro cc hat hwc; clear hat hwc; rw [hb])
            | (at_mapUpdate; refine wpList_mapUpdate_own _ rfl _ _ _ 96 rfl 9 3 mapLaw Tryd.underlying96 (plainElem Tryd.prog 3) w.heap.size n D rfl (HO.out.alloc _) (by have := HN.out.1; unfold maxLen; omega) _ _ (.string x.lab) rfl rfl KEY.out (num k) [] (plainElem_int Tryd.underlying3 (wf_nat (by omega))) ?_; intro w5 ho5 hg5; have H5 := Lib.hid (And.intro ho5 (BX.out.grown hg5 BX.out.size (fun q hq => by cases hq; exact Nat.le_refl _))); clear ho5 hg5))
          go_roundw
          case rel => exact ⟨rfl, k + 1, by omega, by go_num, Lib.hid ⟨⟨H5.out.2, HX.out⟩, n + 1, _, by have := HN.out.1; omega, H5.out.1, HS.out⟩⟩
          case measure => simp [intOf]; omega
    · obtain rfl : k = m := by omega
      have ht : ls.take k = ls := List.take_of_length_le (by rw [HM.out]; exact Nat.le_refl _)
      have HT := Lib.hid ht
      clear ht
      go_wp2
      go_ret2
      unfold GivesM
      obtain ⟨⟨hB, hU⟩, n, D, hn, ho, hr⟩ := H.out
      rw [HT.out] at hr
      exact .inl ⟨by rw [HM.out]; exact hU, _, n, D, rfl, ho, hr, hB⟩
end Go.Proofs.YtjdjkdgdbdenpaaDoor
