/- The program: the table of the kinds, sizes, words, items, variants by their tags. -/
import Derived.Test.YtbkbhlbfkfnljaaDoorRtc
import Derived.Test.YtbkbhlbfkfnljaaDoorPla
import Derived.Test.YtbkbhlbfkfnljaaDoorGue
import Derived.Lib.LaidTab
import Derived.Stop.LaidErr
import Derived.OpenShut
set_option linter.unusedVariables false
set_option linter.unusedSimpArgs false
namespace Go.Proofs.YtbkbhlbfkfnljaaDoor
open Go Go.RowKit L8 L9

/-! ### The table -/
def kdT : List (Bs × Int) := [([], 0), (wInt, 4), (wByte, 1), (wBool, 1), (wChan, 0), (wTimer, 0)]
def row2 (r : Bs × Int) : List Value := [.string (strOf r.1), .int .i64 r.2]
def kwd (k : Nat) : Bs := (kdT.getD k ([], 0)).1
/-- What the row lists of the program's own tables. -/
def T9 (w : World) : Prop := w.var? Tryd.prog "transputer/types.kinds" = some (kdT.flatMap row2).toArray
theorem var_below9 {n : String} {cs : Array Value} {w w' : World} (h : w.var? Tryd.prog n = some cs) (hb : Below w.heap.size w w') : w'.var? Tryd.prog n = some cs := by
  unfold World.var? at *
  cases hg : Tryd.prog.globalNamed n with
  | none => simp [hg] at h
  | some g =>
    simp only [hg, Option.bind_some] at h ⊢
    have hlt : g < w.heap.size := by
      rcases Nat.lt_or_ge g w.heap.size with h' | h'
      · exact h'
      · rw [Array.getElem?_eq_none h'] at h; simp at h
    rw [hb.block g hlt]
    exact h
theorem T9.below {w X : World} (h : T9 w) (b : Below w.heap.size w X) : T9 X := var_below9 h b
theorem gK : Tryd.prog.globalNamed "transputer/types.kinds" = some 0 := by kernel_rfl
theorem T9.cells {w : World} (h : T9 w) {k : Nat} (hk : k < 6) : w.cell? ⟨0, k * 2, none⟩ = some (.string (strOf (kwd k))) ∧ w.cell? ⟨0, k * 2 + 1, none⟩ = some (.int .i64 (sizeK k)) := by
  rw [World.var?_cell gK h, World.var?_cell gK h]
  match k, hk with
  | 0, _ => exact ⟨rfl, rfl⟩
  | 1, _ => exact ⟨rfl, rfl⟩
  | 2, _ => exact ⟨rfl, rfl⟩
  | 3, _ => exact ⟨rfl, rfl⟩
  | 4, _ => exact ⟨rfl, rfl⟩
  | 5, _ => exact ⟨rfl, rfl⟩
theorem sizeK_hi {k : Nat} (h : 6 ≤ k) : sizeK k = 0 := by
  unfold sizeK
  rw [if_neg (by omega), if_neg (by omega)]
theorem sizeK_pos (k : Nat) : 0 < sizeK k ↔ prim k = true := by
  unfold sizeK prim
  by_cases h1 : k = 1
  · simp [h1]
  · by_cases h2 : k = 2
    · simp [h2]
    · by_cases h3 : k = 3 <;> simp [h1, h2, h3]
/-! ### Sizes -/
set_option maxRecDepth 100000 in
theorem PSz_any (k : Nat) (hk : k < 256) (w : World) (ht : T9 w) : Calls Tryd.prog 25 #[.int .u8 (k : Int)] w fun e w' => e = .returned (.int .i64 (sizeK k)) ∧ w = w' := by
  have hk0 : (0 : Int) ≤ (k : Int) := by omega
  have hk2 : (k : Int) < 256 := by omega
  by_cases h6 : 6 ≤ (k : Int)
  · rw [sizeK_hi (by omega)]
    go_enter Tryd.func25, Tryd.ntmps25
    go_wp2
    go_ret
    exact ⟨rfl, rfl⟩
  · obtain ⟨c0, c1⟩ := ht.cells (k := k) (by omega)
    generalize sizeK k = z at *
    clear ht c0
    go_enter Tryd.func25, Tryd.ntmps25
    go_wp2
    go_ret
    exact ⟨rfl, rfl⟩
theorem PPrim_any (k : Nat) (hk : k < 256) (w : World) (ht : T9 w) : Calls Tryd.prog 30 #[.int .u8 (k : Int)] w fun e w' => e = .returned (.bool (prim k)) ∧ w = w' := by
  have C := Lib.hid (PSz_any k hk w ht)
  have hz := sizeK_pos k
  clear ht
  generalize sizeK k = z at *
  cases hp : prim k with
  | true =>
    have h0 : 0 < z := hz.2 hp
    clear hz hp
    go_enter Tryd.func30, Tryd.ntmps30
    go_wp2_with (go_at_call 25; (with_reducible refine (C.out).mono ?_); rintro e w2 ⟨rfl, rfl⟩)
    go_ret
    exact ⟨rfl, rfl⟩
  | false =>
    have h0 : ¬ 0 < z := fun h => by rw [hz.1 h] at hp; cases hp
    clear hz hp
    go_enter Tryd.func30, Tryd.ntmps30
    go_wp2_with (go_at_call 25; (with_reducible refine (C.out).mono ?_); rintro e w2 ⟨rfl, rfl⟩)
    go_ret
    exact ⟨ret_b (decide_eq_false (by omega)), rfl⟩
/-! ### The kind of a word -/
theorem kOf_kwd {j : Nat} (h1 : 1 ≤ j) (h6 : j < 6) : kOf (kwd j) = j := by
  match j, h1, h6 with
  | 1, _, _ => decide
  | 2, _, _ => decide
  | 3, _, _ => decide
  | 4, _, _ => decide
  | 5, _, _ => decide
theorem kOf_none {s : Bs} (h : ∀ i, 1 ≤ i → i < 6 → kwd i ≠ s) : kOf s = 0 := by
  unfold kOf
  rw [if_neg (fun e => h 1 (by omega) (by omega) e.symm), if_neg (fun e => h 2 (by omega) (by omega) e.symm), if_neg (fun e => h 3 (by omega) (by omega) e.symm), if_neg (fun e => h 4 (by omega) (by omega) e.symm), if_neg (fun e => h 5 (by omega) (by omega) e.symm)]
set_option maxRecDepth 100000 in
theorem PKind_any (s : Bs) (w : World) (ht : T9 w) : Calls Tryd.prog 53 #[.string (strOf s)] w fun e w' => e = .returned (.int .u8 (kOf s : Int)) ∧ w = w' := by
  have HT := Lib.hid ht
  have hq := Lib.hid (fun (j : Nat) => eqS (kwd j) s)
  have HNone := Lib.hid (kOf_none (s := s))
  have HAt := Lib.hid (fun (j : Nat) (h1 : 1 ≤ j) (h6 : j < 6) (e : kwd j = s) => show kOf s = j by rw [← e]; exact kOf_kwd h1 h6)
  clear ht
  generalize kOf s = r at *
  generalize strOf s = S at *
  go_enter Tryd.func53, Tryd.ntmps53
  go_wp2
  go_loopw [3] (fun i wr => ∃ j : Nat, 1 ≤ j ∧ j ≤ 6 ∧ i = .int .u8 j ∧ wr = w ∧ Hid (∀ i, 1 ≤ i → i < j → kwd i ≠ s)) (fun i _ => 6 - (intOf i).toNat)
  case atStart => exact ⟨1, Nat.le_refl _, by omega, rfl, rfl, Lib.hid fun i h1 h2 => absurd h2 (by omega)⟩
  case round =>
    obtain ⟨j, h1, hj, rfl, rfl, H⟩ := hrel
    have hj0 : (1 : Int) ≤ (j : Int) := by omega
    have hj6 : (j : Int) ≤ 6 := by omega
    by_cases hlt : (j : Int) < 6
    · obtain ⟨c0, c1⟩ := HT.out.cells (k := j) (by omega)
      have q := hq.out j
      clear c1
      by_cases he : kwd j = s
      · have HE := Lib.hid (HAt.out j h1 (by omega) he)
        rw [decide_eq_true he] at q
        clear he
        generalize strOf (kwd j) = S2 at *
        go_wp2
        go_ret
        rw [HE.out]
        exact ⟨rfl, rfl⟩
      · have HY := Lib.hid (show ∀ i, 1 ≤ i → i < j + 1 → kwd i ≠ s from fun i g1 g2 => if h : i < j then H.out i g1 h else by rw [show i = j by omega]; exact he)
        rw [decide_eq_false he] at q
        clear he H
        generalize strOf (kwd j) = S2 at *
        go_wp2
        go_roundw
        case rel => exact ⟨j + 1, by omega, by omega, by go_num, by first | rfl | trivial, HY⟩
        case measure => simp [intOf]; omega
    · obtain rfl : j = 6 := by omega
      have HE := Lib.hid (HNone.out H.out)
      clear H
      go_wp2
      go_ret
      rw [HE.out]
      exact ⟨rfl, rfl⟩
/-! ### Items -/
theorem itemsB_all {ks : List Nat} {n : Nat} (hn : ks.length = n) (h8 : ¬ 8 < (n : Int)) (h : ∀ i, i < n → prim (ks.getD i 0) = true) : itemsB ks 0 = true := by
  unfold itemsB
  rw [all_prim.2 (by rw [hn]; exact h), decide_eq_true (Nat.zero_le _), decide_eq_true (show ks.length ≤ 8 by omega)]
  rfl
theorem itemsB_not {ks : List Nat} {n j : Nat} (hn : ks.length = n) (hj : j < n) (h : prim (ks.getD j 0) = false) : itemsB ks 0 = false := by
  unfold itemsB
  cases hb : ks.all prim with
  | false => rfl
  | true => rw [all_prim.1 hb j (by omega)] at h; cases h
theorem itemsB_long {ks : List Nat} {n : Nat} (hn : ks.length = n) (h8 : 8 < (n : Int)) : itemsB ks 0 = false := by
  unfold itemsB
  rw [decide_eq_false (show ¬ ks.length ≤ 8 by omega)]
  simp
set_option maxRecDepth 100000 in
theorem PItems_any {A : Option Addr} {c n : Nat} {ks : List Nat} {w : World} (R : KR w A c ks) (hn : ks.length = n) (ht : T9 w) : Calls Tryd.prog 34 #[.slice A n c] w fun e w' => e = .returned (.bool (itemsB ks 0)) ∧ w = w' := by
  have HR := Lib.hid R
  have HN := Lib.hid hn
  have hmx : n ≤ maxLen := by have := R.le; have := R.mx; omega
  unfold maxLen at hmx
  have CP := Lib.hid (fun (j : Nat) => PPrim_any (ks.getD j 0) (R.ok.get j) w ht)
  by_cases h8 : 8 < (n : Int)
  · rw [itemsB_long hn h8]
    clear R hn ht
    go_enter Tryd.func34, Tryd.ntmps34
    go_wp2
    go_ret
    exact ⟨rfl, rfl⟩
  · have HAll := Lib.hid (itemsB_all hn h8)
    have HNot := Lib.hid (fun (j : Nat) (hj : j < n) (h : prim (ks.getD j 0) = false) => itemsB_not hn hj h)
    clear R hn ht
    go_enter Tryd.func34, Tryd.ntmps34
    go_wp2
    go_loopw [10] (fun i wr => ∃ j : Nat, j ≤ n ∧ i = .int .i64 j ∧ wr = w ∧ Hid (∀ i, i < j → prim (ks.getD i 0) = true)) (fun i _ => n - (intOf i).toNat)
    case atStart => exact ⟨0, Nat.zero_le _, rfl, rfl, Lib.hid fun i hi => absurd hi (by omega)⟩
    case round =>
      obtain ⟨j, hj, rfl, rfl, H⟩ := hrel
      have hj0 : (0 : Int) ≤ (j : Int) := by omega
      by_cases hlt : (j : Int) < (n : Int)
      · obtain ⟨ad, rfl, c0⟩ := HR.out.rd j (by have := HN.out; omega)
        have C := Lib.hid (CP.out j)
        cases hp : prim (ks.getD j 0) with
        | false =>
          have HE := Lib.hid (HNot.out j (by omega) hp)
          rw [hp] at C
          clear hp
          generalize ks.getD j 0 = x at *
          go_wp2_with (go_at_call 30; (with_reducible refine (C.out).mono ?_); rintro e w2 ⟨rfl, rfl⟩)
          go_ret
          rw [HE.out]
          first | exact ⟨rfl, rfl⟩ | exact ⟨rfl, trivial⟩
        | true =>
          have HY := Lib.hid (show ∀ i, i < j + 1 → prim (ks.getD i 0) = true from fun i hi => if h2 : i < j then H.out i h2 else by rw [show i = j by omega]; exact hp)
          rw [hp] at C
          clear hp H
          generalize ks.getD j 0 = x at *
          go_wp2_with (go_at_call 30; (with_reducible refine (C.out).mono ?_); rintro e w2 ⟨rfl, rfl⟩)
          go_roundw
          case rel => exact ⟨j + 1, by omega, by go_num, by first | rfl | trivial, HY⟩
          case measure => simp [intOf]; omega
      · obtain rfl : j = n := by omega
        have HE := Lib.hid (HAll.out H.out)
        clear H
        go_wp2
        go_ret
        rw [HE.out]
        exact ⟨rfl, rfl⟩
/-! ### Variants by their tags -/
def ixI (o : Option Nat) : Int := match o with | some i => (i : Int) | none => -1
set_option maxRecDepth 100000 in
theorem PIndex_any {A : Option Addr} {n d : Nat} {vs : List Vr} {w : World} (R : VnR w A d vs) (hn : vs.length = n) (tag : Bs) : Calls Tryd.prog 35 #[.slice A n d, .string (strOf tag)] w fun e w' => e = .returned (.int .i64 (ixI (idxT tag vs))) ∧ Below w.heap.size w w' := by
  have HR := Lib.hid R
  have HN := Lib.hid hn
  have hmx : n ≤ maxLen := by have := R.le; have := R.mx; omega
  unfold maxLen at hmx
  have hEq := Lib.hid (fun (j : Nat) => eqS (vs.getD j v0).tag tag)
  have HNone := Lib.hid (fun (h : ∀ j, j < n → (vs.getD j v0).tag ≠ tag) => show ixI (idxT tag vs) = -1 by rw [idx_none.2 (by rw [hn]; exact h)]; rfl)
  have HAt := Lib.hid (fun (k : Nat) (hk : k < n) (ht : (vs.getD k v0).tag = tag) (h : ∀ j, j < k → (vs.getD j v0).tag ≠ tag) => show ixI (idxT tag vs) = (k : Int) by rw [idx_some.2 ⟨by omega, ht, h⟩]; rfl)
  clear R hn
  generalize ixI (idxT tag vs) = r at *
  generalize strOf tag = S at *
  go_enter Tryd.func35, Tryd.ntmps35
  go_wp2
  go_loopw [9] (fun i wr => ∃ k : Nat, k ≤ n ∧ i = .int .i64 k ∧ Hid (Below w.heap.size w wr ∧ ∀ j, j < k → (vs.getD j v0).tag ≠ tag)) (fun i _ => n - (intOf i).toNat)
  case atStart => exact ⟨0, Nat.zero_le _, rfl, Lib.hid ⟨b0 w, fun j hj => absurd hj (by omega)⟩⟩
  case round =>
    obtain ⟨k, hk, rfl, H⟩ := hrel
    have hk0 : (0 : Int) ≤ (k : Int) := by omega
    by_cases hlt : (k : Int) < (n : Int)
    · obtain ⟨ad, rfl, hv⟩ := (HR.out.keep H.out.1).rd k (by have := HN.out; omega)
      obtain ⟨B, e, m, hm, x0, x1, K⟩ := hv.parts
      have HB := Lib.hid H.out.1
      have qs := hEq.out k
      clear K hm hv
      by_cases heq : (vs.getD k v0).tag = tag
      · have HE := Lib.hid (HAt.out k (by omega) heq H.out.2)
        rw [decide_eq_true heq] at qs
        clear heq H
        generalize strOf (vs.getD k v0).tag = S2 at *
        go_wp2
        go_ret
        rw [HE.out]
        exact ⟨rfl, bal HB.out _⟩
      · have HY := Lib.hid (show ∀ j, j < k + 1 → (vs.getD j v0).tag ≠ tag from fun j hj => if h : j < k then H.out.2 j h else by rw [show j = k by omega]; exact heq)
        rw [decide_eq_false heq] at qs
        clear heq H
        generalize strOf (vs.getD k v0).tag = S2 at *
        go_wp2
        go_roundw
        case rel => exact ⟨k + 1, by omega, by go_num, Lib.hid ⟨bal HB.out _, HY.out⟩⟩
        case measure => simp [intOf]; omega
    · obtain rfl : k = n := by omega
      have HE := Lib.hid (HNone.out H.out.2)
      have HB := Lib.hid H.out.1
      clear H
      go_wp2
      go_ret
      rw [HE.out]
      exact ⟨rfl, HB.out⟩
end Go.Proofs.YtbkbhlbfkfnljaaDoor
