/- The reference: primitive kinds, types that exist, items, values, sizes, words. -/
import Derived.Laws.StructEq
import Derived.Lib.LaidTab
import Derived.Stop.LaidErr
import Derived.OpenShut
import Derived.Test.YtbkbhlbfkfnljaaGreatDoorM01
import Derived.Test.YtbkbhlbfkfnljaaGreatDoorVar
import Derived.Test.YtbkbhlbfkfnljaaGreatDoorM05
import Derived.Test.YtbkbhlbfkfnljaaGreatDoorM06
import Derived.Test.YtbkbhlbfkfnljaaGreatDoorM02
import Derived.Test.YtbkbhlbfkfnljaaGreatDoorGue
set_option linter.unusedVariables false
set_option linter.unusedSimpArgs false
set_option linter.unusedVariables false
set_option linter.unusedSimpArgs false
namespace Go.Proofs.YtbkbhlbfkfnljaaGreatDoor
open Go Go.RowKit L8 L9

theorem nat_eq (a b : Nat) : ((a : Int) == (b : Int)) = decide (a = b) := by by_cases h : a = b <;> simp [h]; omega
theorem eq_nil9 (l : Bs) : ((strOf l).toList == []) = decide (l = []) := by
  rw [toList_strOf]; cases l <;> rfl
set_option maxRecDepth 100000 in
theorem eq_ty (t u : Ty) (w : World) : (Op.equalIn 10000 24 (tyV t) (tyV u)).run Tryz.prog w = .ok (decide (t = u)) w := by
  obtain ⟨k, d, i, p⟩ := t
  obtain ⟨k', d', i', p'⟩ := u
  dsimp only [tyV]
  have es := eqS p p'
  have ek := nat_eq k k'
  have ei := nat_eq i i'
  have hd : decide ((⟨k, d, i, p⟩ : Ty) = ⟨k', d', i', p'⟩) = (decide (k = k') && (decide (d = d') && (decide (i = i') && decide (p = p')))) := by
    simp
  rw [hd]
  generalize strOf p = S at *
  generalize strOf p' = S' at *
  have u1 := Tryz.underlying22
  have a1 := Tryz.isAgg22
  have z1 := Tryz.sizeOf22
  have u2 := Tryz.underlying3
  have a2 := Tryz.isAgg3
  have z2 := Tryz.sizeOf3
  have u3 := Tryz.underlying9
  have a3 := Tryz.isAgg9
  have z3 := Tryz.sizeOf9
  have hS : Tryz.prog.underlying 24 = some (.struct (Tryz.prog.fieldsOf 24)) := by kernel_rfl
  have hp : Tryz.prog.stoodInHeld 24 = false := by kernel_rfl
  rw [show (10000 : Nat) = 9999 + 1 from rfl, run_equalIn_agg w 9999 24 _ _ hS hp]
  simp only [Program.fieldsOf, Tryz.underlying24]
  go_simp
  by_cases h1 : k = k' <;> by_cases h2 : d = d' <;> by_cases h3 : i = i' <;> by_cases h4 : p = p' <;> simp [h1, h2, h3, h4]
theorem may_hi {t : Ty} (h : t.d < 0 ∨ 64 < t.d) : mayT t = false := by unfold mayT; rw [if_pos h]
theorem may_p {t : Ty} (h : ¬ (t.d < 0 ∨ 64 < t.d)) (hk : prim t.k = true) : mayT t = (decide (t.i = 0) && decide (t.p = [])) := by unfold mayT; rw [if_neg h, if_pos hk]
theorem may_c {t : Ty} (h : ¬ (t.d < 0 ∨ 64 < t.d)) (hk : t.k = 4) : mayT t = ((prim t.i && decide (t.p = [])) || (decide (t.i = 0) && isName t.p)) := by unfold mayT; rw [if_neg h, if_neg (by rw [hk]; decide), if_pos hk]
theorem may_t {t : Ty} (h : ¬ (t.d < 0 ∨ 64 < t.d)) (hk : prim t.k = false) (h4 : t.k ≠ 4) : mayT t = decide (t = tTimer) := by unfold mayT; rw [if_neg h, if_neg (by rw [hk]; decide), if_neg h4]
theorem box4T {W : World} {q : Nat} {t : Ty} (h : BoxS W q 24 (tyC t)) : (W.cell? ⟨q, 0, none⟩ = some (.int .u8 (t.k : Int)) ∧ W.cell? ⟨q, 1, none⟩ = some (.int .i64 t.d) ∧ W.cell? ⟨q, 2, none⟩ = some (.int .u8 (t.i : Int)) ∧ W.cell? ⟨q, 3, none⟩ = some (.string (strOf t.p))) ∧ q < W.heap.size := box4 h
end Go.Proofs.YtbkbhlbfkfnljaaGreatDoor
/- The reference: equal lists of kinds, protocols that exist, variants. -/
set_option linter.unusedVariables false
set_option linter.unusedSimpArgs false
namespace Go.Proofs.YtbkbhlbfkfnljaaGreatDoor
open Go Go.RowKit L8 L9

theorem ks_ext {a b : List Nat} (hl : a.length = b.length) (h : ∀ j, j < a.length → a.getD j 0 = b.getD j 0) : a = b := by
  apply List.ext_getElem? 
  intro i
  by_cases hi : i < a.length
  · have := h i hi
    have e1 : a[i]? = some (a.getD i 0) := by simp [hi]
    have e2 : b[i]? = some (b.getD i 0) := by simp [show i < b.length by omega]
    rw [e1, e2, this]
  · rw [List.getElem?_eq_none (by omega), List.getElem?_eq_none (by omega)]
theorem int_nat_neq (a b : Nat) : ((a : Int) != (b : Int)) = !decide (a = b) := by by_cases h : a = b <;> simp [h]; omega
theorem mayP_bad {vs : List Vr} {i : Nat} (hi : i < vs.length) (h : ¬ okV vs i) : mayP true vs = false := by
  unfold mayP
  rw [if_pos rfl, decide_eq_false (show ¬ ∀ i, i < vs.length → okV vs i from fun g => h (g i hi))]
  simp
theorem mayP_good {vs : List Vr} (h1 : 1 ≤ vs.length) (h2 : vs.length ≤ 16) (h : ∀ i, i < vs.length → okV vs i) : mayP true vs = true := by
  unfold mayP
  rw [if_pos rfl, decide_eq_true h1, decide_eq_true h2, decide_eq_true h]
  rfl
theorem mayP_len {vs : List Vr} (h : vs.length < 1 ∨ 16 < vs.length) : mayP true vs = false := by
  unfold mayP
  rw [if_pos rfl]
  rcases h with h | h
  · rw [decide_eq_false (show ¬ 1 ≤ vs.length by omega)]; rfl
  · rw [decide_eq_false (show ¬ vs.length ≤ 16 by omega)]; simp
theorem mayP_no {vs : List Vr} : mayP false vs = (decide (vs.length = 1) && (decide ((vs.getD 0 v0).tag = []) && itemsB (vs.getD 0 v0).it 1)) := by
  unfold mayP; rw [if_neg (by decide)]
theorem VrAt.parts {w : World} {p : Addr} {v : Vr} (h : VrAt w p v) : ∃ B d n, v.it.length = n ∧ w.cell? p = some (.string (strOf v.tag)) ∧ w.cell? ⟨p.block, p.off + 1, none⟩ = some (.slice B n d) ∧ KR w B d v.it := by
  obtain ⟨h1, B, d, h2, h3⟩ := h
  exact ⟨B, d, _, rfl, h1, h2, h3⟩
def prV (c : Bool) (A : Option Addr) (n d : Nat) : Value := .agg #[.bool c, .slice A n d]
/-- What is known of a world in which a protocol lies in a box. -/
def PrS (w X : World) (c : Bool) (A : Option Addr) (n d : Nat) (vs : List Vr) : Prop := Below w.heap.size w X ∧ BoxS X w.heap.size 52 #[.bool c, .slice A n d] ∧ VnR X A d vs
theorem PrS.step {w X Y : World} {c : Bool} {A : Option Addr} {n d : Nat} {vs : List Vr} (h : PrS w X c A n d vs) (b : Below X.heap.size X Y) : PrS w Y c A n d vs := ⟨blw h.1 b, h.2.1.below b, h.2.2.keep b⟩
theorem PrS.bel {w X : World} {c : Bool} {A : Option Addr} {n d : Nat} {vs : List Vr} (h : PrS w X c A n d vs) : Below w.heap.size w X := h.1
theorem PrS.box {w X : World} {c : Bool} {A : Option Addr} {n d : Nat} {vs : List Vr} (h : PrS w X c A n d vs) : X.cell? ⟨w.heap.size, 0, none⟩ = some (.bool c) ∧ X.cell? ⟨w.heap.size, 1, none⟩ = some (.slice A n d) := ⟨(h.2.1.cell 0).trans rfl, (h.2.1.cell 1).trans rfl⟩
theorem PrS.at {w X : World} {c : Bool} {A : Option Addr} {n d : Nat} {vs : List Vr} (h : PrS w X c A n d vs) {k : Nat} (hk : k < vs.length) : ∃ ad, A = some ad ∧ ∃ B e m, (vs.getD k v0).it.length = m ∧ X.cell? (ad.add (k * 2)) = some (.string (strOf (vs.getD k v0).tag)) ∧ X.cell? ⟨(ad.add (k * 2)).block, (ad.add (k * 2)).off + 1, none⟩ = some (.slice B m e) ∧ KR X B e (vs.getD k v0).it := by
  obtain ⟨ad, h1, h2⟩ := h.2.2.rd k hk
  exact ⟨ad, h1, h2.parts⟩
theorem PrS.new {w : World} {c : Bool} {A : Option Addr} {n d : Nat} {vs : List Vr} (R : VnR w A d vs) : PrS w (w.alloc (.cells #[.bool c, .slice A n d] 52)) c A n d vs := ⟨bal (b0 w) _, boxS_new w _ _, R.keep (bal (b0 w) _)⟩
theorem add_z (a : Addr) : (a.add 0).block = a.block := by unfold Addr.add; split <;> rfl
theorem okV_iff {vs : List Vr} {k : Nat} : okV vs k ↔ isName (vs.getD k v0).tag = true ∧ itemsB (vs.getD k v0).it 0 = true ∧ ∀ j, j < k → (vs.getD j v0).tag ≠ (vs.getD k v0).tag := by
  unfold okV mayV
  rw [Bool.and_eq_true, and_assoc]
end Go.Proofs.YtbkbhlbfkfnljaaGreatDoor
/- The reference: a variant by its tag, tokens that are made, equal tokens. -/
set_option linter.unusedVariables false
set_option linter.unusedSimpArgs false
namespace Go.Proofs.YtbkbhlbfkfnljaaGreatDoor
open Go Go.RowKit L8 L9

theorem rwV_eq9 (t : Tk) : rwV t = .agg #[.int .u8 (t.k : Int), .int .i64 t.a, .string (strOf t.tx), .int .i32 t.n] := rfl
theorem findR_at {c : Bool} {vs : List Vr} {tag : Bs} {k : Nat} (h : mayP c vs = true) (hk : k < vs.length) (ht : (vs.getD k v0).tag = tag) (hn : ∀ j, j < k → (vs.getD j v0).tag ≠ tag) : findR c vs tag = ((vs.getD k v0).it, k, true) := by
  unfold findR findP
  rw [if_pos h, idx_some.2 ⟨hk, ht, hn⟩]
theorem findR_none {c : Bool} {vs : List Vr} {tag : Bs} (hn : ∀ j, j < vs.length → (vs.getD j v0).tag ≠ tag) : findR c vs tag = ([], 0, false) := by
  unfold findR findP
  rw [idx_none.2 hn, ite_self]
/-- What Find gives, as letters. -/
def GivesF (w : World) (r : List Nat × Nat × Bool) (e : Ending) (w' : World) : Prop := ∃ B d, e = .returned (.tuple #[.slice B r.1.length d, .int .i64 (r.2.1 : Int), .bool r.2.2]) ∧ KR w' B d r.1 ∧ Below w.heap.size w w'
set_option maxRecDepth 100000 in
theorem eq_tk (x y : Tk) (w : World) : (Op.equalIn 10000 39 (rwV x) (rwV y)).run Tryz.prog w = .ok (decide (x = y)) w := by
  obtain ⟨k, a, tx, n⟩ := x
  obtain ⟨k', a', tx', n'⟩ := y
  dsimp only [rwV]
  have es := eqS tx tx'
  have ek := nat_eq k k'
  have hd : decide ((⟨k, a, tx, n⟩ : Tk) = ⟨k', a', tx', n'⟩) = (decide (k = k') && (decide (a = a') && (decide (tx = tx') && decide (n = n')))) := by
    simp
  rw [hd]
  generalize strOf tx = S at *
  generalize strOf tx' = S' at *
  have u1 := Tryz.underlying37
  have a1 := Tryz.isAgg37
  have z1 := Tryz.sizeOf37
  have u2 := Tryz.underlying3
  have a2 := Tryz.isAgg3
  have z2 := Tryz.sizeOf3
  have u3 := Tryz.underlying9
  have a3 := Tryz.isAgg9
  have z3 := Tryz.sizeOf9
  have u4 := Tryz.underlying21
  have a4 := Tryz.isAgg21
  have z4 := Tryz.sizeOf21
  have hS : Tryz.prog.underlying 39 = some (.struct (Tryz.prog.fieldsOf 39)) := by kernel_rfl
  have hp : Tryz.prog.stoodInHeld 39 = false := by kernel_rfl
  rw [show (10000 : Nat) = 9999 + 1 from rfl, run_equalIn_agg w 9999 39 _ _ hS hp]
  simp only [Program.fieldsOf, Tryz.underlying39]
  go_simp
  by_cases h1 : k = k' <;> by_cases h2 : a = a' <;> by_cases h3 : tx = tx' <;> by_cases h4 : n = n' <;> simp [h1, h2, h3, h4]
theorem guard_tk : Tryz.prog.eqGuardType Tryz.prog.depth 39 = false := by kernel_rfl
theorem neq_tk (x y : Tk) (w : World) : (binOp .neq 39 (rwV x) (rwV y)).run Tryz.prog w = .ok (.bool (!decide (x = y))) w := by
  have h := eq_tk x y w
  rw [rwV_eq9, rwV_eq9] at h ⊢
  rw [run_neq_struct, h]; rfl
theorem tk_ext {a b : List Tk} (hl : a.length = b.length) (h : ∀ j, j < a.length → a.getD j r0 = b.getD j r0) : a = b := by
  apply List.ext_getElem?
  intro i
  by_cases hi : i < a.length
  · have := h i hi
    have e1 : a[i]? = some (a.getD i r0) := by simp [hi]
    have e2 : b[i]? = some (b.getD i r0) := by simp [show i < b.length by omega]
    rw [e1, e2, this]
  · rw [List.getElem?_eq_none (by omega), List.getElem?_eq_none (by omega)]
end Go.Proofs.YtbkbhlbfkfnljaaGreatDoor
/- The program: the table of the kinds, sizes, words, items, variants by their tags. -/
set_option linter.unusedVariables false
set_option linter.unusedSimpArgs false
namespace Go.Proofs.YtbkbhlbfkfnljaaGreatDoor
open Go Go.RowKit L8 L9

/-! ### The table -/
def kdT : List (Bs × Int) := [([], 0), (wInt, 4), (wByte, 1), (wBool, 1), (wChan, 0), (wTimer, 0)]
def row2 (r : Bs × Int) : List Value := [.string (strOf r.1), .int .i64 r.2]
def kwd (k : Nat) : Bs := (kdT.getD k ([], 0)).1
/-- What the row lists of the program's own tables. -/
def T9 (w : World) : Prop := w.var? Tryz.prog "transputer/types.kinds" = some (kdT.flatMap row2).toArray
theorem var_below9 {n : String} {cs : Array Value} {w w' : World} (h : w.var? Tryz.prog n = some cs) (hb : Below w.heap.size w w') : w'.var? Tryz.prog n = some cs := by
  unfold World.var? at *
  cases hg : Tryz.prog.globalNamed n with
  | none => simp [hg] at h
  | some g =>
    simp only [hg, Option.bind_some] at h ⊢
    have hlt : g < w.heap.size := by
      rcases Nat.lt_or_ge g w.heap.size with h' | h'
      · exact h'
      · rw [Array.getElem?_eq_none h'] at h; simp at h
    rw [hb.block g hlt]
    exact h
theorem T9.below {w X : World} (h : T9 w) (b : Below w.heap.size w X) : T9 X := var_below9 h b
theorem gK : Tryz.prog.globalNamed "transputer/types.kinds" = some 0 := by kernel_rfl
theorem T9.cells {w : World} (h : T9 w) {k : Nat} (hk : k < 6) : w.cell? ⟨0, k * 2, none⟩ = some (.string (strOf (kwd k))) ∧ w.cell? ⟨0, k * 2 + 1, none⟩ = some (.int .i64 (sizeK k)) := by
  rw [World.var?_cell gK h, World.var?_cell gK h]
  match k, hk with
  | 0, _ => exact ⟨rfl, rfl⟩
  | 1, _ => exact ⟨rfl, rfl⟩
  | 2, _ => exact ⟨rfl, rfl⟩
  | 3, _ => exact ⟨rfl, rfl⟩
  | 4, _ => exact ⟨rfl, rfl⟩
  | 5, _ => exact ⟨rfl, rfl⟩
theorem sizeK_hi {k : Nat} (h : 6 ≤ k) : sizeK k = 0 := by
  unfold sizeK
  rw [if_neg (by omega), if_neg (by omega)]
theorem sizeK_pos (k : Nat) : 0 < sizeK k ↔ prim k = true := by
  unfold sizeK prim
  by_cases h1 : k = 1
  · simp [h1]
  · by_cases h2 : k = 2
    · simp [h2]
    · by_cases h3 : k = 3 <;> simp [h1, h2, h3]
/-! ### Sizes -/
set_option maxRecDepth 100000 in
theorem PSz_any (k : Nat) (hk : k < 256) (w : World) (ht : T9 w) : Calls Tryz.prog 19 #[.int .u8 (k : Int)] w fun e w' => e = .returned (.int .i64 (sizeK k)) ∧ w = w' := by
  have hk0 : (0 : Int) ≤ (k : Int) := by omega
  have hk2 : (k : Int) < 256 := by omega
  by_cases h6 : 6 ≤ (k : Int)
  · rw [sizeK_hi (by omega)]
    go_enter Tryz.func19, Tryz.ntmps19
    go_wp2
    go_ret
    exact ⟨rfl, rfl⟩
  · obtain ⟨c0, c1⟩ := ht.cells (k := k) (by omega)
    generalize sizeK k = z at *
    clear ht c0
    go_enter Tryz.func19, Tryz.ntmps19
    go_wp2
    go_ret
    exact ⟨rfl, rfl⟩
theorem PPrim_any (k : Nat) (hk : k < 256) (w : World) (ht : T9 w) : Calls Tryz.prog 14 #[.int .u8 (k : Int)] w fun e w' => e = .returned (.bool (prim k)) ∧ w = w' := by
  have C := Lib.hid (PSz_any k hk w ht)
  have hz := sizeK_pos k
  clear ht
  generalize sizeK k = z at *
  cases hp : prim k with
  | true =>
    have h0 : 0 < z := hz.2 hp
    clear hz hp
    go_enter Tryz.func14, Tryz.ntmps14
    go_wp2_with (go_at_call 19; (with_reducible refine (C.out).mono ?_); rintro e w2 ⟨rfl, rfl⟩)
    go_ret
    exact ⟨rfl, rfl⟩
  | false =>
    have h0 : ¬ 0 < z := fun h => by rw [hz.1 h] at hp; cases hp
    clear hz hp
    go_enter Tryz.func14, Tryz.ntmps14
    go_wp2_with (go_at_call 19; (with_reducible refine (C.out).mono ?_); rintro e w2 ⟨rfl, rfl⟩)
    go_ret
    exact ⟨ret_b (decide_eq_false (by omega)), rfl⟩
/-! ### The kind of a word -/
theorem kOf_kwd {j : Nat} (h1 : 1 ≤ j) (h6 : j < 6) : kOf (kwd j) = j := by
  match j, h1, h6 with
  | 1, _, _ => decide
  | 2, _, _ => decide
  | 3, _, _ => decide
  | 4, _, _ => decide
  | 5, _, _ => decide
theorem kOf_none {s : Bs} (h : ∀ i, 1 ≤ i → i < 6 → kwd i ≠ s) : kOf s = 0 := by
  unfold kOf
  rw [if_neg (fun e => h 1 (by omega) (by omega) e.symm), if_neg (fun e => h 2 (by omega) (by omega) e.symm), if_neg (fun e => h 3 (by omega) (by omega) e.symm), if_neg (fun e => h 4 (by omega) (by omega) e.symm), if_neg (fun e => h 5 (by omega) (by omega) e.symm)]
set_option maxRecDepth 100000 in
theorem PKind_any (s : Bs) (w : World) (ht : T9 w) : Calls Tryz.prog 49 #[.string (strOf s)] w fun e w' => e = .returned (.int .u8 (kOf s : Int)) ∧ w = w' := by
  have HT := Lib.hid ht
  have hq := Lib.hid (fun (j : Nat) => eqS (kwd j) s)
  have HNone := Lib.hid (kOf_none (s := s))
  have HAt := Lib.hid (fun (j : Nat) (h1 : 1 ≤ j) (h6 : j < 6) (e : kwd j = s) => show kOf s = j by rw [← e]; exact kOf_kwd h1 h6)
  clear ht
  generalize kOf s = r at *
  generalize strOf s = S at *
  go_enter Tryz.func49, Tryz.ntmps49
  go_wp2
  go_loopw [3] (fun i wr => ∃ j : Nat, 1 ≤ j ∧ j ≤ 6 ∧ i = .int .u8 j ∧ wr = w ∧ Hid (∀ i, 1 ≤ i → i < j → kwd i ≠ s)) (fun i _ => 6 - (intOf i).toNat)
  case atStart => exact ⟨1, Nat.le_refl _, by omega, rfl, rfl, Lib.hid fun i h1 h2 => absurd h2 (by omega)⟩
  case round =>
    obtain ⟨j, h1, hj, rfl, rfl, H⟩ := hrel
    have hj0 : (1 : Int) ≤ (j : Int) := by omega
    have hj6 : (j : Int) ≤ 6 := by omega
    by_cases hlt : (j : Int) < 6
    · obtain ⟨c0, c1⟩ := HT.out.cells (k := j) (by omega)
      have q := hq.out j
      clear c1
      by_cases he : kwd j = s
      · have HE := Lib.hid (HAt.out j h1 (by omega) he)
        rw [decide_eq_true he] at q
        clear he
        generalize strOf (kwd j) = S2 at *
        go_wp2
        go_ret
        rw [HE.out]
        exact ⟨rfl, rfl⟩
      · have HY := Lib.hid (show ∀ i, 1 ≤ i → i < j + 1 → kwd i ≠ s from fun i g1 g2 => if h : i < j then H.out i g1 h else by rw [show i = j by omega]; exact he)
        rw [decide_eq_false he] at q
        clear he H
        generalize strOf (kwd j) = S2 at *
        go_wp2
        go_roundw
        case rel => exact ⟨j + 1, by omega, by omega, by go_num, by first | rfl | trivial, HY⟩
        case measure => simp [intOf]; omega
    · obtain rfl : j = 6 := by omega
      have HE := Lib.hid (HNone.out H.out)
      clear H
      go_wp2
      go_ret
      rw [HE.out]
      exact ⟨rfl, rfl⟩
/-! ### Items -/
theorem itemsB_all {ks : List Nat} {n : Nat} (hn : ks.length = n) (h8 : ¬ 8 < (n : Int)) (h : ∀ i, i < n → prim (ks.getD i 0) = true) : itemsB ks 0 = true := by
  unfold itemsB
  rw [all_prim.2 (by rw [hn]; exact h), decide_eq_true (Nat.zero_le _), decide_eq_true (show ks.length ≤ 8 by omega)]
  rfl
theorem itemsB_not {ks : List Nat} {n j : Nat} (hn : ks.length = n) (hj : j < n) (h : prim (ks.getD j 0) = false) : itemsB ks 0 = false := by
  unfold itemsB
  cases hb : ks.all prim with
  | false => rfl
  | true => rw [all_prim.1 hb j (by omega)] at h; cases h
theorem itemsB_long {ks : List Nat} {n : Nat} (hn : ks.length = n) (h8 : 8 < (n : Int)) : itemsB ks 0 = false := by
  unfold itemsB
  rw [decide_eq_false (show ¬ ks.length ≤ 8 by omega)]
  simp
set_option maxRecDepth 100000 in
theorem PItems_any {A : Option Addr} {c n : Nat} {ks : List Nat} {w : World} (R : KR w A c ks) (hn : ks.length = n) (ht : T9 w) : Calls Tryz.prog 36 #[.slice A n c] w fun e w' => e = .returned (.bool (itemsB ks 0)) ∧ w = w' := by
  have HR := Lib.hid R
  have HN := Lib.hid hn
  have hmx : n ≤ maxLen := by have := R.le; have := R.mx; omega
  unfold maxLen at hmx
  have CP := Lib.hid (fun (j : Nat) => PPrim_any (ks.getD j 0) (R.ok.get j) w ht)
  by_cases h8 : 8 < (n : Int)
  · rw [itemsB_long hn h8]
    clear R hn ht
    go_enter Tryz.func36, Tryz.ntmps36
    go_wp2
    go_ret
    exact ⟨rfl, rfl⟩
  · have HAll := Lib.hid (itemsB_all hn h8)
    have HNot := Lib.hid (fun (j : Nat) (hj : j < n) (h : prim (ks.getD j 0) = false) => itemsB_not hn hj h)
    clear R hn ht
    go_enter Tryz.func36, Tryz.ntmps36
    go_wp2
    go_loopw [10] (fun i wr => ∃ j : Nat, j ≤ n ∧ i = .int .i64 j ∧ wr = w ∧ Hid (∀ i, i < j → prim (ks.getD i 0) = true)) (fun i _ => n - (intOf i).toNat)
    case atStart => exact ⟨0, Nat.zero_le _, rfl, rfl, Lib.hid fun i hi => absurd hi (by omega)⟩
    case round =>
      obtain ⟨j, hj, rfl, rfl, H⟩ := hrel
      have hj0 : (0 : Int) ≤ (j : Int) := by omega
      by_cases hlt : (j : Int) < (n : Int)
      · obtain ⟨ad, rfl, c0⟩ := HR.out.rd j (by have := HN.out; omega)
        have C := Lib.hid (CP.out j)
        cases hp : prim (ks.getD j 0) with
        | false =>
          have HE := Lib.hid (HNot.out j (by omega) hp)
          rw [hp] at C
          clear hp
          generalize ks.getD j 0 = x at *
          go_wp2_with (go_at_call 14; (with_reducible refine (C.out).mono ?_); rintro e w2 ⟨rfl, rfl⟩)
          go_ret
          rw [HE.out]
          first | exact ⟨rfl, rfl⟩ | exact ⟨rfl, trivial⟩
        | true =>
          have HY := Lib.hid (show ∀ i, i < j + 1 → prim (ks.getD i 0) = true from fun i hi => if h2 : i < j then H.out i h2 else by rw [show i = j by omega]; exact hp)
          rw [hp] at C
          clear hp H
          generalize ks.getD j 0 = x at *
          go_wp2_with (go_at_call 14; (with_reducible refine (C.out).mono ?_); rintro e w2 ⟨rfl, rfl⟩)
          go_roundw
          case rel => exact ⟨j + 1, by omega, by go_num, by first | rfl | trivial, HY⟩
          case measure => simp [intOf]; omega
      · obtain rfl : j = n := by omega
        have HE := Lib.hid (HAll.out H.out)
        clear H
        go_wp2
        go_ret
        rw [HE.out]
        exact ⟨rfl, rfl⟩
/-! ### Variants by their tags -/
def ixI (o : Option Nat) : Int := match o with | some i => (i : Int) | none => -1
set_option maxRecDepth 100000 in
theorem PIndex_any {A : Option Addr} {n d : Nat} {vs : List Vr} {w : World} (R : VnR w A d vs) (hn : vs.length = n) (tag : Bs) : Calls Tryz.prog 35 #[.slice A n d, .string (strOf tag)] w fun e w' => e = .returned (.int .i64 (ixI (idxT tag vs))) ∧ Below w.heap.size w w' := by
  have HR := Lib.hid R
  have HN := Lib.hid hn
  have hmx : n ≤ maxLen := by have := R.le; have := R.mx; omega
  unfold maxLen at hmx
  have hEq := Lib.hid (fun (j : Nat) => eqS (vs.getD j v0).tag tag)
  have HNone := Lib.hid (fun (h : ∀ j, j < n → (vs.getD j v0).tag ≠ tag) => show ixI (idxT tag vs) = -1 by rw [idx_none.2 (by rw [hn]; exact h)]; rfl)
  have HAt := Lib.hid (fun (k : Nat) (hk : k < n) (ht : (vs.getD k v0).tag = tag) (h : ∀ j, j < k → (vs.getD j v0).tag ≠ tag) => show ixI (idxT tag vs) = (k : Int) by rw [idx_some.2 ⟨by omega, ht, h⟩]; rfl)
  clear R hn
  generalize ixI (idxT tag vs) = r at *
  generalize strOf tag = S at *
  go_enter Tryz.func35, Tryz.ntmps35
  go_wp2
  go_loopw [9] (fun i wr => ∃ k : Nat, k ≤ n ∧ i = .int .i64 k ∧ Hid (Below w.heap.size w wr ∧ ∀ j, j < k → (vs.getD j v0).tag ≠ tag)) (fun i _ => n - (intOf i).toNat)
  case atStart => exact ⟨0, Nat.zero_le _, rfl, Lib.hid ⟨b0 w, fun j hj => absurd hj (by omega)⟩⟩
  case round =>
    obtain ⟨k, hk, rfl, H⟩ := hrel
    have hk0 : (0 : Int) ≤ (k : Int) := by omega
    by_cases hlt : (k : Int) < (n : Int)
    · obtain ⟨ad, rfl, hv⟩ := (HR.out.keep H.out.1).rd k (by have := HN.out; omega)
      obtain ⟨B, e, m, hm, x0, x1, K⟩ := hv.parts
      have HB := Lib.hid H.out.1
      have qs := hEq.out k
      clear K hm hv
      by_cases heq : (vs.getD k v0).tag = tag
      · have HE := Lib.hid (HAt.out k (by omega) heq H.out.2)
        rw [decide_eq_true heq] at qs
        clear heq H
        generalize strOf (vs.getD k v0).tag = S2 at *
        go_wp2
        go_ret
        rw [HE.out]
        exact ⟨rfl, bal HB.out _⟩
      · have HY := Lib.hid (show ∀ j, j < k + 1 → (vs.getD j v0).tag ≠ tag from fun j hj => if h : j < k then H.out.2 j h else by rw [show j = k by omega]; exact heq)
        rw [decide_eq_false heq] at qs
        clear heq H
        generalize strOf (vs.getD k v0).tag = S2 at *
        go_wp2
        go_roundw
        case rel => exact ⟨k + 1, by omega, by go_num, Lib.hid ⟨bal HB.out _, HY.out⟩⟩
        case measure => simp [intOf]; omega
    · obtain rfl : k = n := by omega
      have HE := Lib.hid (HNone.out H.out.2)
      have HB := Lib.hid H.out.1
      clear H
      go_wp2
      go_ret
      rw [HE.out]
      exact ⟨rfl, HB.out⟩
end Go.Proofs.YtbkbhlbfkfnljaaGreatDoor
