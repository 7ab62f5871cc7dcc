/- Strings, frames, boxes, slices of strings and of tokens: what can be read, what is a row of the call's own, appends. -/
import Derived.Test.YtblckajejohlbaaDoorLex
import Derived.Test.YtblckajejohlbaaDoorRows
import Derived.WalkKit
import Derived.Lib.Hide
import Derived.Deep.QuietTactic
import Derived.WalkSpells
import Derived.WalkLawsBesides
import Derived.Handy
import Derived.IntWalk
import Derived.BigQuiet
import Derived.Deep.AppendLies
import Derived.Laws.OwnMore
import Derived.OwnWalk
import Derived.RangeFuncNested
import Derived.RangeFuncBox
import Derived.Deep.RegionWith
import Derived.Deep.RegionHeld3
import Derived.Deep.DrawnRows
import Derived.WalkMore
import Derived.Lib.Strings
set_option linter.unusedVariables false
set_option linter.unusedSimpArgs false
set_option linter.unusedVariables false
set_option linter.unusedSimpArgs false
namespace Go.Proofs.YtblckajejohlbaaDoor
open Go Go.RowKit L8

/-! ### Endings -/
theorem ret_i {k : IntKind} {a b : Int} (h : a = b) : Ending.returned (.int k a) = .returned (.int k b) := by rw [h]
theorem ret_b {p q : Bool} (h : p = q) : Ending.returned (.bool p) = .returned (.bool q) := by rw [h]
theorem ret_s {p q : ByteArray} (h : p = q) : Ending.returned (.string p) = .returned (.string q) := by rw [h]
theorem ret_t2 {a b c d : Value} (h : a = b) (k : c = d) : Ending.returned (.tuple #[a, c]) = .returned (.tuple #[b, d]) := by rw [h, k]

/-! ### Strings -/
def strOf (l : Bs) : ByteArray := ⟨l.toArray⟩
theorem size_strOf (l : Bs) : (strOf l).size = l.length := by
  show (strOf l).data.size = _
  simp [strOf]
theorem str_self (s : ByteArray) : s = strOf s.data.toList := by cases s; rfl
theorem data_strOf (l : Bs) : (strOf l).data.toList = l := by simp [strOf]
theorem toList_strOf (l : Bs) : (strOf l).toList = l := by rw [Lib.toList_data]; simp [strOf]
theorem strOf_empty (l : Bs) : (strOf l).toList.isEmpty = l.isEmpty := by rw [toList_strOf]
theorem strOf_append (a b : Bs) : strOf (a ++ b) = strOf a ++ strOf b := by
  apply ByteArray.ext
  simp [strOf]
theorem cat_str (a b : Bs) (h : a.length + b.length ≤ 1000000) : Op.stringOp .add (strOf a) (strOf b) = pure (.string (strOf (a ++ b))) := by
  unfold Op.stringOp
  simp only [size_strOf]
  rw [if_neg (by simp [IntKind.max, IntKind.signed, IntKind.bits]; omega), strOf_append]
theorem eqS (a b : Bs) : ((strOf a).toList == (strOf b).toList) = decide (a = b) := by
  rw [toList_strOf, toList_strOf]
  by_cases h : a = b <;> simp [h]
theorem index_str (s : ByteArray) (k : Nat) (h : k < s.size) (W : World) : (Instr.index 9 (.string s) (.int .i64 (k : Int))).run Tryd.prog W = .ok (.int .u8 ((s[k]'h).toNat : Int)) W := by
  rw [run_index_string W 9 s .i64 (k : Int) Tryd.underlying9, dif_pos ⟨by omega, by omega⟩]
  rfl
theorem index_l (l : Bs) (k : Nat) (h : k < l.length) (W : World) : (Instr.index 9 (.string (strOf l)) (.int .i64 (k : Int))).run Tryd.prog W = .ok (.int .u8 ((l.getD k 0).toNat : Int)) W := by
  rw [index_str (strOf l) k (by rw [size_strOf]; exact h)]
  have : (strOf l)[k]'(by rw [size_strOf]; exact h) = l.getD k 0 := by
    show (strOf l).data[k]'_ = _
    simp [strOf, h]
  rw [this]
theorem cut_to (l : Bs) (k : Nat) (h : k ≤ l.length) (W : World) : (Instr.slice 9 (.string (strOf l)) none (some (.int .i64 (k : Int))) none).run Tryd.prog W = .ok (.string (strOf (l.take k))) W := by
  have hs := size_strOf l
  rw [run_slice_string_to_if W 9 (strOf l) .i64 (k : Int) Tryd.underlying9, if_pos ⟨by omega, by omega⟩, Int.toNat_natCast]
  congr 2
  apply ByteArray.ext
  simp [strOf]
theorem cut_from (l : Bs) (k : Nat) (h : k ≤ l.length) (W : World) : (Instr.slice 9 (.string (strOf l)) (some (.int .i64 (k : Int))) none none).run Tryd.prog W = .ok (.string (strOf (l.drop k))) W := by
  have hs := size_strOf l
  rw [run_slice_string_from_if W 9 (strOf l) .i64 (k : Int) Tryd.underlying9, if_pos ⟨by omega, by omega⟩, Int.toNat_natCast]
  congr 2
  apply ByteArray.ext
  apply Array.ext'
  have h2 : (strOf l).data.toList = l := rfl
  simp only [ByteArray.data_extract, Array.toList_extract, h2, hs]
  simp [strOf, List.extract]
  exact List.take_of_length_le (by simp)
theorem cut_mid (l : Bs) (i k : Nat) (h1 : i ≤ k) (h : k ≤ l.length) (W : World) : (Instr.slice 9 (.string (strOf l)) (some (.int .i64 (i : Int))) (some (.int .i64 (k : Int))) none).run Tryd.prog W = .ok (.string (strOf ((l.take k).drop i))) W := by
  have hs := size_strOf l
  rw [run_slice_string W 9 _ .i64 .i64 (i : Int) (k : Int) Tryd.underlying9 (by omega) (by omega) (by rw [hs]; omega), Int.toNat_natCast, Int.toNat_natCast]
  congr 2
  apply ByteArray.ext
  apply Array.ext'
  have h2 : (strOf l).data.toList = l := rfl
  simp only [ByteArray.data_extract, Array.toList_extract, h2]
  simp [strOf, List.extract, List.drop_take]

/-! ### Frames -/
theorem g_trans {a b c : World} {r : Option Nat} (h : a.grownBy b r) (k : b.grownBy c r) : a.grownBy c r :=
  ⟨k.os.trans h.os, k.tape.trans h.tape, k.output.trans h.output, Nat.le_trans h.size k.size, fun i hi hr => (k.block i (Nat.lt_of_lt_of_le hi h.size) hr).trans (h.block i hi hr)⟩
theorem g_of_below {a b : World} (h : Below a.heap.size a b) : a.grownBy b none := ⟨h.os, h.tape, h.output, h.size, fun k hk _ => h.block k hk⟩
theorem g_below0 {a b : World} (h : a.grownBy b none) : Below a.heap.size a b := ⟨h.os, h.tape, h.output, h.size, fun k hk => h.block k hk (by simp)⟩
theorem below_b {B : Nat} {w a b : World} (h : Below B w a) (hB : B ≤ a.heap.size) (g : Below a.heap.size a b) : Below B w b := h.trans (g.mono hB)
theorem bcell {W w1 : World} {n : Nat} (hb : Below n W w1) : (∀ b o, b < n → w1.cell? ⟨b, o, none⟩ = W.cell? ⟨b, o, none⟩) ∧ (∀ b o, b < n → w1.frozen? ⟨b, o, none⟩ = W.frozen? ⟨b, o, none⟩) :=
  ⟨fun b o h => hb.cell (p := ⟨b, o, none⟩) h, fun b o h => hb.frozen (p := ⟨b, o, none⟩) h⟩
theorem bdrew {n : Nat} {w w1 : World} (h : Below n w w1) (k : Nat) : Below n w (w1.drewN k) := h.trans ⟨rfl, rfl, rfl, Nat.le_refl _, fun _ _ => rfl⟩
theorem blw {w w1 w2 : World} (h1 : Below w.heap.size w w1) (h2 : Below w1.heap.size w1 w2) : Below w.heap.size w w2 := h1.trans (h2.mono h1.size)
theorem bal {w w1 : World} (h : Below w.heap.size w w1) (o : Obj) : Below w.heap.size w (w1.alloc o) := h.alloc h.size o
theorem b0 (w : World) : Below w.heap.size w w := Below.refl _ _
theorem bset {n : Nat} {w W : World} (h : Below n w W) {B j : Nat} (hB : n ≤ B) (v : Value) : Below n w (W.setCell ⟨B, j, none⟩ v) := h.setCell (p := ⟨B, j, none⟩) hB v
theorem bgrow {w X Y : World} {v : Value} {e : TypeId} {s n B : Nat} {xs : List Value} (h : Below w.heap.size w X) (hown : X.ownsRow B e s v n xs) (hB : w.heap.size ≤ B) (g : X.grownBy Y v.ownBlock) : Below w.heap.size w Y :=
  h.grown g h.size (fun k hk => Nat.le_trans hB (hown.lt k hk).1)
theorem own_keepB {w w' : World} {B n s : Nat} {e : TypeId} {v : Value} {xs : List Value} (h : w.ownsRow B e s v n xs) (hb : Below w.heap.size w w') : w'.ownsRow B e s v n xs :=
  h.kept (g_of_below hb) (by cases v.ownBlock <;> simp)
theorem g_lt {w : World} {p : Addr} {v : Value} (h : w.cell? p = some v) : p.block < w.heap.size := World.block_lt_of_cell? w p h
theorem add_block (a : Addr) (n : Nat) : (a.add n).block = a.block := by unfold Addr.add; split <;> rfl
theorem add_add_ (a : Addr) (i j : Nat) : (a.add i).add j = a.add (i + j) := by
  unfold Addr.add
  by_cases hi : i = 0 <;> by_cases hj : j = 0 <;> simp [hi, hj, Nat.add_assoc]
theorem add_plain (g o j : Nat) : (⟨g, o, none⟩ : Addr).add j = ⟨g, o + j, none⟩ := by unfold Addr.add; split <;> simp_all
theorem add_succ_ (a : Addr) (k : Nat) : a.add (k + 1) = ⟨a.block, a.off + (k + 1), none⟩ := by unfold Addr.add; simp

/-! ### Boxes -/
def BoxS (w : World) (k : Nat) (t : TypeId) (cs : Array Value) : Prop := w.heap[k]? = some (.cells cs t (0, 0))
theorem BoxS.lt {w : World} {k : Nat} {t : TypeId} {cs : Array Value} (h : BoxS w k t cs) : k < w.heap.size := (Array.getElem?_eq_some_iff.1 h).1
theorem BoxS.kept {X Y : World} {k : Nat} {t : TypeId} {cs : Array Value} {row : Option Nat} (h : BoxS X k t cs) (hg : X.grownBy Y row) (hr : some k ≠ row) : BoxS Y k t cs := (hg.block k h.lt hr).trans h
theorem BoxS.grown {X Y : World} {k : Nat} {t : TypeId} {cs : Array Value} (h : BoxS X k t cs) (hg : X.grownBy Y none) : BoxS Y k t cs := h.kept hg (by simp)
theorem BoxS.below {X Y : World} {k : Nat} {t : TypeId} {cs : Array Value} (h : BoxS X k t cs) (b : Below X.heap.size X Y) : BoxS Y k t cs := h.grown (g_of_below b)
theorem BoxS.alloc {X : World} {k : Nat} {t : TypeId} {cs : Array Value} (h : BoxS X k t cs) (o : Obj) : BoxS (X.alloc o) k t cs := h.grown (World.grownBy_alloc X o none)
theorem BoxS.cell {w : World} {k : Nat} {t : TypeId} {cs : Array Value} (h : BoxS w k t cs) (j : Nat) : w.cell? ⟨k, j, none⟩ = cs[j]? := by simp [World.cell?, show w.heap[k]? = _ from h]
theorem BoxS.frozen {w : World} {k : Nat} {t : TypeId} {cs : Array Value} (h : BoxS w k t cs) (j : Nat) : w.frozen? ⟨k, j, none⟩ = false := by simp [World.frozen?, show w.heap[k]? = _ from h]
theorem boxS_new (w : World) (t : TypeId) (cs : Array Value) : BoxS (w.alloc (.cells cs t)) w.heap.size t cs := by
  show (w.heap.push _)[w.heap.size]? = _
  simp
theorem boxS_other {W : World} {B B' j : Nat} {t : TypeId} {cs : Array Value} (h : BoxS W B t cs) (hne : B ≠ B') (v : Value) : BoxS (W.setCell ⟨B', j, none⟩ v) B t cs := (Below.heap_setCell W ⟨B', j, none⟩ v B hne).trans h
theorem boxed_other {W : World} {B B' j : Nat} {t : TypeId} {u : Value} (h : Boxed W B t u) (hne : B ≠ B') (v : Value) : Boxed (W.setCell ⟨B', j, none⟩ v) B t u := (Below.heap_setCell W ⟨B', j, none⟩ v B hne).trans h
theorem other_set {W : World} {D B' j : Nat} {o : Obj} (h : W.heap[D]? = some o) (hne : D ≠ B') (v : Value) : (W.setCell ⟨B', j, none⟩ v).heap[D]? = some o := (Below.heap_setCell W ⟨B', j, none⟩ v D hne).trans h
/-- The cells of a box of three. -/
theorem box3 {W : World} {k : Nat} {t : TypeId} {a b c : Value} (h : BoxS W k t #[a, b, c]) : (W.cell? ⟨k, 0, none⟩ = some a ∧ W.cell? ⟨k, 1, none⟩ = some b ∧ W.cell? ⟨k, 2, none⟩ = some c) ∧ k < W.heap.size :=
  ⟨⟨(h.cell 0).trans rfl, (h.cell 1).trans rfl, (h.cell 2).trans rfl⟩, h.lt⟩
theorem box_ne {X : World} {g g' : Nat} {t t' : TypeId} {cs cs' : Array Value} (h : BoxS X g t cs) (h' : BoxS X g' t' cs') (hne : t ≠ t') : g ≠ g' := by
  rintro rfl
  unfold BoxS at h h'
  rw [h] at h'
  injection h' with h'
  injection h' with _ h2
  exact hne h2

/-! ### Tokens -/
def r0 : Tk := ⟨0, 0, [], 0⟩
def rwC (x : Tk) : List Value := [.int .u8 (x.k : Int), .int .i64 x.a, .string (strOf x.tx), .int .i32 x.n]
abbrev rwV (x : Tk) : Value := .agg #[.int .u8 (x.k : Int), .int .i64 x.a, .string (strOf x.tx), .int .i32 x.n]
def rwCs (rs : List Tk) : List Value := rs.flatMap rwC
theorem rwCs_app (a b : List Tk) : rwCs (a ++ b) = rwCs a ++ rwCs b := by simp [rwCs]
theorem rwCs_len (rs : List Tk) : (rwCs rs).length = rs.length * 4 := by
  induction rs with
  | nil => rfl
  | cons x rs ih => rw [show rwCs (x :: rs) = rwC x ++ rwCs rs from rfl, List.length_append, ih]; simp [rwC]; omega
theorem rwCs_one (rs : List Tk) : ∀ v ∈ rwCs rs, v.oneCell' = true := by
  intro v hv
  simp only [rwCs, List.mem_flatMap, rwC, List.mem_cons, List.not_mem_nil, or_false] at hv
  obtain ⟨p, _, rfl | rfl | rfl | rfl⟩ := hv <;> rfl
theorem rwCs_at {rs : List Tk} {j i : Nat} (h : j < rs.length) (hi : i < 4) : (rwCs rs)[j * 4 + i]? = (rwC (rs.getD j r0))[i]? := by
  induction rs generalizing j with
  | nil => simp at h
  | cons x rs ih =>
    rw [show rwCs (x :: rs) = rwC x ++ rwCs rs from rfl]
    cases j with
    | zero =>
      rw [Nat.zero_mul, Nat.zero_add, List.getElem?_append_left (by simp [rwC]; omega)]
      rfl
    | succ j =>
      have := ih (j := j) (by simpa using h)
      rw [List.getElem?_append_right (by simp [rwC]; omega), List.getD_cons_succ, ← this]
      congr 1
      simp [rwC]
      omega
/-- A row lies from an address on. -/
def RwAt (w : World) (p : Addr) (x : Tk) : Prop :=
  w.cell? p = some (.int .u8 (x.k : Int)) ∧ w.cell? ⟨p.block, p.off + 1, none⟩ = some (.int .i64 x.a) ∧ w.cell? ⟨p.block, p.off + 2, none⟩ = some (.string (strOf x.tx)) ∧ w.cell? ⟨p.block, p.off + 3, none⟩ = some (.int .i32 x.n)
theorem RwAt.below {B : Nat} {w w' : World} {p : Addr} {x : Tk} (h : RwAt w p x) (hb : Below B w w') (hp : p.block < B) : RwAt w' p x :=
  ⟨(hb.cell hp).trans h.1, (hb.cell (p := ⟨p.block, p.off + 1, none⟩) hp).trans h.2.1, (hb.cell (p := ⟨p.block, p.off + 2, none⟩) hp).trans h.2.2.1, (hb.cell (p := ⟨p.block, p.off + 3, none⟩) hp).trans h.2.2.2⟩
theorem RwAt.keep {w w' : World} {p : Addr} {x : Tk} (h : RwAt w p x) (hb : Below w.heap.size w w') : RwAt w' p x := h.below hb (g_lt h.1)
def OKx (x : Tk) : Prop := x.tx.length ≤ maxLen ∧ x.k < 256 ∧ -2147483648 ≤ x.n ∧ x.n ≤ 2147483647
def OKL (rs : List Tk) : Prop := ∀ x ∈ rs, OKx x
theorem okx_r0 : OKx r0 := by simp [OKx, r0]
theorem getD_mem {rs : List Tk} {j : Nat} (hj : j < rs.length) : rs.getD j r0 ∈ rs := by
  have e : rs.getD j r0 = rs[j] := by simp [hj]
  rw [e]; exact List.getElem_mem hj
theorem OKL.get {rs : List Tk} (h : OKL rs) (j : Nat) : OKx (rs.getD j r0) := by
  by_cases hj : j < rs.length
  · exact h _ (getD_mem hj)
  · have e : rs.getD j r0 = r0 := by simp [List.getElem?_eq_none (show rs.length ≤ j by omega)]
    rw [e]; exact okx_r0
theorem OKL.app {a b : List Tk} (h : OKL a) (h' : OKL b) : OKL (a ++ b) := fun x hx => (List.mem_append.1 hx).elim (h x) (h' x)
theorem OKL.one {x : Tk} (h : OKx x) : OKL [x] := fun y hy => by rw [List.mem_singleton.1 hy]; exact h
theorem OKL.nil : OKL [] := fun _ h => (by cases h)
/-- A slice of rows that can be read. -/
structure RR (w : World) (A : Option Addr) (c : Nat) (rs : List Tk) : Prop where
  le : rs.length ≤ c
  mx : c ≤ maxLen
  ok : OKL rs
  rd : ∀ j, j < rs.length → ∃ ad, A = some ad ∧ RwAt w (ad.add (j * 4)) (rs.getD j r0)
theorem RR.keep {w w' : World} {A : Option Addr} {c : Nat} {rs : List Tk} (h : RR w A c rs) (hb : Below w.heap.size w w') : RR w' A c rs :=
  ⟨h.le, h.mx, h.ok, fun j hj => by obtain ⟨ad, e, hl⟩ := h.rd j hj; exact ⟨ad, e, hl.keep hb⟩⟩
theorem RR.keepB {B : Nat} {w w' : World} {A : Option Addr} {c : Nat} {rs : List Tk} (h : RR w A c rs) (hb : Below B w w') (hA : ∀ ad, A = some ad → 0 < rs.length → ad.block < B) : RR w' A c rs :=
  ⟨h.le, h.mx, h.ok, fun j hj => by obtain ⟨ad, e, hl⟩ := h.rd j hj; exact ⟨ad, e, hl.below hb (by rw [add_block]; exact hA ad e (by omega))⟩⟩
theorem RR.nil (w : World) : RR w none 0 [] := ⟨Nat.le_refl _, by simp [maxLen], OKL.nil, (fun j h => absurd h (by simp))⟩
theorem RR.take {w : World} {A : Option Addr} {c : Nat} {rs : List Tk} (h : RR w A c rs) (k : Nat) : RR w A c (rs.take k) :=
  ⟨Nat.le_trans (List.length_take_le' ..) h.le, h.mx, fun x hx => h.ok x (List.mem_of_mem_take hx), fun j hj => by
    have hj' : j < rs.length := by simp at hj; omega
    have hjk : j < k := by simp at hj; omega
    obtain ⟨ad, e, hl⟩ := h.rd j hj'
    have e2 : (rs.take k).getD j r0 = rs.getD j r0 := by simp [List.getElem?_take, hjk]
    rw [e2]
    exact ⟨ad, e, hl⟩⟩
theorem RR.lt {w : World} {A : Option Addr} {c : Nat} {rs : List Tk} (h : RR w A c rs) (h0 : 0 < rs.length) : ∀ ad, A = some ad → ad.block < w.heap.size := by
  intro ad e
  obtain ⟨ad', e', hl⟩ := h.rd 0 h0
  rw [e] at e'
  cases e'
  have := g_lt hl.1
  rwa [add_block] at this
/-- A row of rows (or of the program's lines) of the call's own. -/
def OwnR (w : World) (e : TypeId) (B : Nat) (A : Option Addr) (n c : Nat) (rs : List Tk) : Prop := w.ownsRow B e 4 (.slice A n c) n (rwCs rs)
theorem OwnR.len {w : World} {e : TypeId} {B n c : Nat} {A : Option Addr} {rs : List Tk} (h : OwnR w e B A n c rs) : rs.length = n := by
  have := h.1
  rw [rwCs_len] at this
  omega
theorem OwnR.keep {w w' : World} {e : TypeId} {B n c : Nat} {A : Option Addr} {rs : List Tk} (h : OwnR w e B A n c rs) (hb : Below w.heap.size w w') : OwnR w' e B A n c rs := own_keepB h hb
theorem OwnR.rr {w : World} {e : TypeId} {B n c : Nat} {A : Option Addr} {rs : List Tk} (h : OwnR w e B A n c rs) (ho : OKL rs) : RR w A c rs := by
  have hl := h.len
  rcases h.2 with ⟨hv, h0⟩ | ⟨g, cap, cur, hv, hB, hh, hnc, hm, hcs, hx⟩
  · injection hv with h1 h2 h3
    subst h1
    obtain rfl : rs = [] := List.eq_nil_of_length_eq_zero (by omega)
    exact ⟨by simp, by rw [h3]; simp [maxLen], ho, (fun j h => absurd h (by simp))⟩
  · injection hv with h1 h2 h3
    subst h1 h3
    refine ⟨by omega, hm, ho, fun j hj => ⟨_, rfl, ?_⟩⟩
    have hc : ∀ i, i < 4 → ∀ v, (rwC (rs.getD j r0))[i]? = some v → w.cell? ((⟨g, 0, none⟩ : Addr).add (j * 4 + i)) = some v := fun i hi v hv => World.ownsRow.cells h rfl (j * 4 + i) v ((rwCs_at hj hi).trans hv)
    have e : ∀ i, w.cell? ⟨((⟨g, 0, none⟩ : Addr).add (j * 4)).block, ((⟨g, 0, none⟩ : Addr).add (j * 4)).off + i, none⟩ = w.cell? ((⟨g, 0, none⟩ : Addr).add (j * 4 + i)) := fun i => by rw [add_plain, add_plain, ← Nat.add_assoc]
    refine ⟨hc 0 (by decide) _ rfl, (e 1).trans (hc 1 (by decide) _ rfl), (e 2).trans (hc 2 (by decide) _ rfl), (e 3).trans (hc 3 (by decide) _ rfl)⟩
theorem ownR_nil (w : World) (e : TypeId) (B : Nat) : OwnR w e B none 0 0 [] := World.ownsRow_nil w B _ 4
theorem OwnR.base {w : World} {e : TypeId} {B B' n c : Nat} {A : Option Addr} {rs : List Tk} (h : OwnR w e B A n c rs) (hB : B' ≤ B) : OwnR w e B' A n c rs := by
  refine ⟨h.1, ?_⟩
  rcases h.2 with h2 | ⟨g, cap, cur, hv, hg, h2⟩
  · exact .inl h2
  · exact .inr ⟨g, cap, cur, hv, Nat.le_trans hB hg, h2⟩
theorem owned_ge {w : World} {e : TypeId} {B n c : Nat} {A : Option Addr} {rs : List Tk} (h : OwnR w e B A n c rs) : ∀ ad, A = some ad → B ≤ ad.block ∧ ad.block < w.heap.size ∧ ad = ⟨ad.block, 0, none⟩ := by
  intro ad e
  rcases h.2 with ⟨hv, _⟩ | ⟨g, cap, cur, hv, hB, hh, _⟩
  · injection hv with h1; rw [e] at h1; cases h1
  · injection hv with h1
    rw [e] at h1
    cases h1
    exact ⟨hB, (Array.getElem?_eq_some_iff.1 hh).1, rfl⟩
/-- The cells of the rows of a slice. -/
theorem RR.cells {w : World} {A : Option Addr} {c : Nat} {rs : List Tk} (R : RR w A c rs) {ad : Addr} (e : A = some ad) : ∀ j u, (rwCs rs)[j]? = some u → w.cell? (ad.add j) = some u := by
  intro j u hj
  have hjl : j < rs.length * 4 := by
    have := (List.getElem?_eq_some_iff.1 hj).1
    rwa [rwCs_len] at this
  obtain ⟨ad', e', h0, h1, h2, h3⟩ := R.rd (j / 4) (by omega)
  rw [e] at e'
  cases e'
  have hd : j = j / 4 * 4 + j % 4 := by omega
  have hm : j % 4 < 4 := Nat.mod_lt _ (by decide)
  have hc := rwCs_at (rs := rs) (j := j / 4) (i := j % 4) (by omega) hm
  rw [← hd, hj] at hc
  have ha : ∀ i, i ≠ 0 → ad.add (j / 4 * 4 + i) = ⟨(ad.add (j / 4 * 4)).block, (ad.add (j / 4 * 4)).off + i, none⟩ := fun i hi => by
    obtain ⟨k, rfl⟩ := Nat.exists_eq_succ_of_ne_zero hi
    rw [← add_add_, add_succ_]
  generalize j / 4 = q at *
  generalize j % 4 = r at *
  subst hd
  match r, hm with
  | 0, _ => rw [Nat.add_zero, h0]; exact hc.symm
  | 1, _ => rw [ha 1 (by decide), h1]; exact hc.symm
  | 2, _ => rw [ha 2 (by decide), h2]; exact hc.symm
  | 3, _ => rw [ha 3 (by decide), h3]; exact hc.symm
theorem str_info : (Tryd.prog.info? 9).map (fun i => (i.zero, i.size, i.bytes)) = some (some (.string ⟨#[]⟩), 1, 16) := by kernel_rfl
/-- A new row of one. -/
theorem rr_one {w : World} {e : TypeId} {q : Nat} {x : Tk} (hx : OKx x) (hq : w.heap[q]? = some (.cells #[.int .u8 (x.k : Int), .int .i64 x.a, .string (strOf x.tx), .int .i32 x.n] e (0, 0))) : RR w (some ⟨q, 0, none⟩) 1 [x] :=
  OwnR.rr (e := e) (B := 0) (n := 1) ⟨rfl, .inr ⟨q, 1, _, rfl, Nat.zero_le _, hq, Nat.le_refl _, by unfold maxLen; decide, rfl, rfl⟩⟩ (OKL.one hx)
theorem rr_new {w : World} {e : TypeId} {q : Nat} {rs : List Tk} (ho : OKL rs) (hl : rs.length ≤ maxLen) (hq : w.heap[q]? = some (.cells (rwCs rs).toArray e (0, 0))) : RR w (some ⟨q, 0, none⟩) rs.length rs :=
  OwnR.rr (e := e) (B := 0) (n := rs.length) ⟨rwCs_len rs, .inr ⟨q, rs.length, _, rfl, Nat.zero_le _, hq, Nat.le_refl _, hl, by simp [rwCs_len], by simp [List.take_of_length_le, rwCs_len]⟩⟩ ho
/-- The cells of a box of four. -/
theorem box4 {W : World} {k : Nat} {t : TypeId} {a b c d : Value} (h : BoxS W k t #[a, b, c, d]) : (W.cell? ⟨k, 0, none⟩ = some a ∧ W.cell? ⟨k, 1, none⟩ = some b ∧ W.cell? ⟨k, 2, none⟩ = some c ∧ W.cell? ⟨k, 3, none⟩ = some d) ∧ k < W.heap.size :=
  ⟨⟨(h.cell 0).trans rfl, (h.cell 1).trans rfl, (h.cell 2).trans rfl, (h.cell 3).trans rfl⟩, h.lt⟩
theorem extract_to (l : Bs) (k : Nat) : (strOf l).extract 0 k = strOf (l.take k) := by
  apply ByteArray.ext
  simp [strOf]

/-! ### Slices of strings -/
def sC (ss : List Bs) : List Value := ss.map fun l => Value.string (strOf l)
theorem sC_len (ss : List Bs) : (sC ss).length = ss.length := by simp [sC]
theorem sC_app (a b : List Bs) : sC (a ++ b) = sC a ++ sC b := by simp [sC]
theorem sC_at {ss : List Bs} {j : Nat} (h : j < ss.length) : (sC ss)[j]? = some (.string (strOf (ss.getD j []))) := by simp [sC, h]
theorem sC_set (ss : List Bs) (i : Nat) (v : Bs) : sC (ss.set i v) = (sC ss).set i (.string (strOf v)) := by simp [sC]
theorem sC_one (ss : List Bs) : ∀ v ∈ sC ss, v.oneCell' = true := by
  intro v hv
  simp only [sC, List.mem_map] at hv
  obtain ⟨n, _, rfl⟩ := hv
  rfl
/-- A slice of strings that can be read. -/
structure SS (w : World) (A : Option Addr) (c : Nat) (ss : List Bs) : Prop where
  le : ss.length ≤ c
  mx : c ≤ maxLen
  rd : ∀ j, j < ss.length → ∃ ad, A = some ad ∧ w.cell? (ad.add j) = some (.string (strOf (ss.getD j [])))
theorem SS.keep {w w' : World} {A : Option Addr} {c : Nat} {ss : List Bs} (h : SS w A c ss) (hb : Below w.heap.size w w') : SS w' A c ss :=
  ⟨h.le, h.mx, fun j hj => by obtain ⟨ad, e, hl⟩ := h.rd j hj; exact ⟨ad, e, (hb.cell (g_lt hl)).trans hl⟩⟩
theorem SS.nil (w : World) : SS w none 0 [] := ⟨Nat.le_refl _, by simp [maxLen], (fun j h => absurd h (by simp))⟩
def OwnS (w : World) (B : Nat) (A : Option Addr) (n c : Nat) (ss : List Bs) : Prop := w.ownsRow B 9 1 (.slice A n c) n (sC ss)
theorem OwnS.len {w : World} {B n c : Nat} {A : Option Addr} {ss : List Bs} (h : OwnS w B A n c ss) : ss.length = n := by
  have := h.1
  rw [sC_len] at this
  omega
theorem OwnS.keep {w w' : World} {B n c : Nat} {A : Option Addr} {ss : List Bs} (h : OwnS w B A n c ss) (hb : Below w.heap.size w w') : OwnS w' B A n c ss := own_keepB h hb
theorem OwnS.ss {w : World} {B n c : Nat} {A : Option Addr} {ss : List Bs} (h : OwnS w B A n c ss) : SS w A c ss := by
  have hl := h.len
  rcases h.2 with ⟨hv, h0⟩ | ⟨g, cap, cur, hv, hB, hh, hnc, hm, hcs, hx⟩
  · injection hv with h1 h2 h3
    subst h1
    obtain rfl : ss = [] := List.eq_nil_of_length_eq_zero (by omega)
    exact ⟨by simp, by rw [h3]; simp [maxLen], (fun j h => absurd h (by simp))⟩
  · injection hv with h1 h2 h3
    subst h1 h3
    exact ⟨by omega, hm, fun j hj => ⟨_, rfl, World.ownsRow.cells h rfl j _ (sC_at hj)⟩⟩
theorem ownS_nil (w : World) (B : Nat) : OwnS w B none 0 0 [] := World.ownsRow_nil w B _ 1
theorem SS.cells {w : World} {A : Option Addr} {c : Nat} {ss : List Bs} (R : SS w A c ss) {ad : Addr} (e : A = some ad) : ∀ j u, (sC ss)[j]? = some u → w.cell? (ad.add j) = some u := by
  intro j u hj
  have hjl : j < ss.length := by
    have := (List.getElem?_eq_some_iff.1 hj).1
    rwa [sC_len] at this
  obtain ⟨ad', e', h0⟩ := R.rd j hjl
  rw [e] at e'
  cases e'
  rw [sC_at hjl] at hj
  rw [h0, hj]
theorem run_strs {w : World} {base n c m d : Nat} {A A' : Option Addr} {xs ys : List Bs} {ty : TypeId} (hown : OwnS w base A n c xs) (hy : ys.length = m) (hm : 0 < m) (R : SS w A' d ys) (h63 : n + m ≤ 1000000) (hbase : base ≤ w.heap.size) :
    ∃ A2 c2 w', (Builtin.append_ #[154, 154] ty #[.slice A n c, .slice A' m d]).run Tryd.prog w = .ok (.slice A2 (n + m) c2) w' ∧ OwnS w' base A2 (n + m) c2 (xs ++ ys) ∧ w.grownBy w' (Value.slice A n c).ownBlock := by
  obtain ⟨i0, hi0, hz0, hz1, hz2⟩ := info_parts str_info
  obtain ⟨ad, rfl, _⟩ := R.rd 0 (by omega)
  obtain ⟨g, cap, w', hr, h1, h2, _⟩ := run_append_lies (P := Tryd.prog) w 154 ty base 9 i0 (.string ⟨#[]⟩) 1 16 Tryd.underlying154 hi0 hz0 hz1 hz2 rfl (by omega) (.slice A n c) n (sC xs) hown ad m d (sC ys) (by rw [sC_len, hy]; omega) (R.cells rfl) (sC_one ys) hm
    (by unfold maxLen; omega) (by omega) hbase w.heap.size rfl
  exact ⟨_, _, w', hr, by unfold OwnS; rw [sC_app]; exact h1, h2⟩
/-- Strings (at least one) appended to a row of the call's own. -/
theorem app_strs {w : World} {ops : Array Oper} {rest : List Oper} {o : Oper} {a : Act} {Q : Exit → Act → World → Prop} (hgd : o.guard = none) (s x : Operand)
    (ho : o.op = .call { callee := .builtin .append, args := #[s, x], argTypes := #[154, 154] }) (base n c m d l : Nat) (A A' : Option Addr) (xs ys : List Bs) (hs : a.eval s = .slice A n c) (hx : a.eval x = .slice A' m d)
    (hown : OwnS w base A n c xs) (hy : ys.length = m) (hm : 0 < m) (R : SS w A' d ys) (hl : n + m = l) (h63 : l ≤ 1000000) (hbase : base ≤ w.heap.size)
    (h : ∀ A2 c2 w', OwnS w' base A2 l c2 (xs ++ ys) → w.grownBy w' (Value.slice A n c).ownBlock → wpList Tryd.prog ops Q rest (a.put o.dst (.slice A2 l c2)) w') : wpList Tryd.prog ops Q (o :: rest) a w := by
  subst hl
  refine wpList_plain hgd fun K hK => ?_
  unfold Oper.wp execOp
  obtain ⟨A2, c2, w', hr, h1, h2⟩ := run_strs (ty := o.type) hown hy hm R h63 hbase
  simp only [ho, resolve, invoke, builtin, Sem.run_bind, Sem.run_pure, Result.andThen_ok, List.map_toArray, List.map_cons, List.map_nil, hs, hx, hr]
  exact hK _ _ (h A2 c2 w' h1 h2)
theorem ss_one {w : World} {q : Nat} {x : Bs} (hq : w.heap[q]? = some (.cells #[.string (strOf x)] 9 (0, 0))) : SS w (some ⟨q, 0, none⟩) 1 [x] :=
  OwnS.ss (B := 0) (n := 1) ⟨rfl, .inr ⟨q, 1, _, rfl, Nat.zero_le _, hq, Nat.le_refl _, by unfold maxLen; decide, rfl, rfl⟩⟩
end Go.Proofs.YtblckajejohlbaaDoor
