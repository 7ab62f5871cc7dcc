/- Bytes as numbers; what a store does to a list of bytes; a memory as two blocks; slices of bytes. -/
import Derived.Test.YtjdinppblejcdaaRows
import Derived.WalkKit
import Derived.Lib.Hide
import Derived.Deep.QuietTactic
import Derived.WalkSpells
import Derived.WalkLawsBesides
import Derived.Handy
import Derived.Laws.Shifts
import Derived.BigQuiet
import Derived.Deep.AppendLies
import Derived.Laws.OwnMore
import Derived.OwnWalk
import Derived.Laws.CopyOwn
import Derived.Laws.BytesArg
namespace Go.Proofs.Ytjdinppblejcdaa
open Go Go.RowKit

/-- A word; the word of a number. -/
def isW (a : Int) : Prop := -2147483648 ≤ a ∧ a ≤ 2147483647
theorem isW_wrap32 (x : Int) : isW (wrap32 x) := by unfold isW wrap32; omega
theorem isW_of_wf {a : Int} (h : (Lit.int .i32 a).wf = true) : isW a := by
  simp only [Lit.wf, IntKind.min, IntKind.max, IntKind.signed, IntKind.bits, Bool.and_eq_true, decide_eq_true_eq, if_true] at h
  exact ⟨by omega, by omega⟩
def wd (n : Nat) : Int := wrap32 n
theorem isW_wd (n : Nat) : isW (wd n) := isW_wrap32 _
/-- The index of the byte at an address, and of the first byte of its word. -/
def ix (a : Int) : Nat := (a + 2147483648).toNat
theorem ix_cast {a : Int} (h : isW a) : (ix a : Int) = a + 2147483648 := by unfold isW at h; unfold ix; omega
theorem ix_lt {a : Int} (h : isW a) : ix a < 4294967296 := by unfold isW at h; unfold ix; omega
def wx (a : Int) : Nat := ix a / 4 * 4
theorem ret_i {k : IntKind} {a b : Int} (h : a = b) : Ending.returned (.int k a) = .returned (.int k b) := by rw [h]
theorem ret_ii {k l : IntKind} {a b c d : Int} (h : a = b) (h' : c = d) : Ending.returned (.tuple #[.int k a, .int l c]) = .returned (.tuple #[.int k b, .int l d]) := by rw [h, h']
theorem ret_b {p q : Bool} (h : p = q) : Ending.returned (.bool p) = .returned (.bool q) := by rw [h]
theorem at_ {P : Program} {f : FuncId} {args : Array Value} {w : World} {R : World → Prop} {x y : Ending} (h : Calls P f args w fun e w' => e = x ∧ R w') (hxy : x = y) : Calls P f args w fun e w' => e = y ∧ R w' := by subst hxy; exact h

/-- The cells of a list of bytes. -/
def bs (xs : List Nat) : List Value := xs.map fun (n : Nat) => Value.int .u8 (n : Int)
def bc (xs : List Nat) (j : Nat) : Value := .int .u8 ((xs.getD j 0 : Nat) : Int)
theorem bs_len (xs : List Nat) : (bs xs).length = xs.length := by simp [bs]
theorem bs_at {xs : List Nat} {j : Nat} (h : j < xs.length) : (bs xs)[j]? = some (bc xs j) := by simp [bs, bc, h]
theorem bs_app (xs ys : List Nat) : bs (xs ++ ys) = bs xs ++ bs ys := by simp [bs]
theorem bs_set (xs : List Nat) (i v : Nat) : bs (xs.set i v) = (bs xs).set i (.int .u8 (v : Int)) := by simp [bs]
theorem bs_one (xs : List Nat) : ∀ v ∈ bs xs, v.oneCell' = true := by
  intro v hv
  simp only [bs, List.mem_map] at hv
  obtain ⟨n, _, rfl⟩ := hv
  rfl
def BY (xs : List Nat) : Prop := ∀ x ∈ xs, x < 256
theorem BY.get {xs : List Nat} (h : BY xs) (j : Nat) : xs.getD j 0 < 256 := by
  by_cases hj : j < xs.length
  · have e : xs.getD j 0 = xs[j] := by simp [hj]
    rw [e]
    exact h _ (List.getElem_mem hj)
  · have e : xs.getD j 0 = 0 := by simp [List.getElem?_eq_none (show xs.length ≤ j by omega)]
    rw [e]; omega

/-- The bytes ys stored from index i on. -/
def put (xs : List Nat) (i : Nat) (ys : List Nat) : List Nat := xs.take i ++ (ys ++ xs.drop (i + ys.length))
theorem put_nil (xs : List Nat) (i : Nat) : put xs i [] = xs := by simp [put]
theorem put_len {xs ys : List Nat} {i : Nat} (h : i + ys.length ≤ xs.length) : (put xs i ys).length = xs.length := by simp [put]; omega
theorem put_by {xs ys : List Nat} {i : Nat} (h : BY xs) (k : BY ys) : BY (put xs i ys) := by
  intro x hx
  simp only [put, List.mem_append] at hx
  rcases hx with hx | hx | hx
  · exact h _ (List.mem_of_mem_take hx)
  · exact k _ hx
  · exact h _ (List.mem_of_mem_drop hx)
theorem put_get {xs ys : List Nat} {i j : Nat} (h : i + ys.length ≤ xs.length) : (put xs i ys).getD j 0 = if i ≤ j ∧ j < i + ys.length then ys.getD (j - i) 0 else xs.getD j 0 := by
  simp only [put, List.getD_eq_getElem?_getD]
  by_cases h1 : j < i
  · rw [List.getElem?_append_left (by simp; omega), List.getElem?_take, if_pos h1, if_neg (by omega)]
  · rw [List.getElem?_append_right (by simp; omega), List.length_take, show min i xs.length = i by omega]
    by_cases h2 : j < i + ys.length
    · rw [List.getElem?_append_left (by omega), if_pos ⟨by omega, h2⟩]
    · rw [List.getElem?_append_right (by omega), if_neg (by omega), List.getElem?_drop]
      congr 2
      omega
theorem list_ext {xs ys : List Nat} (h : xs.length = ys.length) (k : ∀ j, j < xs.length → xs.getD j 0 = ys.getD j 0) : xs = ys := by
  apply List.ext_getElem h
  intro j h1 h2
  have := k j h1
  simpa [h1, h2] using this
theorem put_step {xs ys : List Nat} {i k : Nat} (h : i + ys.length ≤ xs.length) (hk : k < ys.length) : (put xs i (ys.take k)).set (i + k) (ys.getD k 0) = put xs i (ys.take (k + 1)) := by
  have l1 : (ys.take k).length = k := by simp; omega
  have l2 : (ys.take (k + 1)).length = k + 1 := by simp; omega
  apply list_ext
  · rw [List.length_set, put_len (by omega), put_len (by omega)]
  · intro j hj
    rw [List.length_set, put_len (by omega)] at hj
    rw [put_get (by omega), l2]
    by_cases e : i + k = j
    · subst e
      rw [if_pos ⟨by omega, by omega⟩]
      simp only [List.getD_eq_getElem?_getD]
      rw [List.getElem?_set, if_pos rfl, if_pos (by rw [put_len (by omega)]; omega), List.getElem?_take, if_pos (by omega), show i + k - i = k by omega]
      simp [hk]
    · have e1 : ((put xs i (ys.take k)).set (i + k) (ys.getD k 0)).getD j 0 = (put xs i (ys.take k)).getD j 0 := by
        simp only [List.getD_eq_getElem?_getD]
        rw [List.getElem?_set, if_neg e]
      rw [e1, put_get (by omega), l1]
      by_cases h2 : i ≤ j ∧ j < i + k
      · rw [if_pos h2, if_pos ⟨h2.1, by omega⟩]
        simp only [List.getD_eq_getElem?_getD]
        rw [List.getElem?_take, if_pos (by omega), List.getElem?_take, if_pos (by omega)]
      · rw [if_neg h2, if_neg (by omega)]
/-- The same, where the bytes do not fit: nothing is stored. -/
def wr (xs : List Nat) (i : Nat) (ys : List Nat) : List Nat := if i + ys.length ≤ xs.length then put xs i ys else xs
theorem wr_nil (xs : List Nat) (i : Nat) : wr xs i [] = xs := by
  unfold wr
  split
  · exact put_nil _ _
  · rfl
theorem wr_len (xs : List Nat) (i : Nat) (ys : List Nat) : (wr xs i ys).length = xs.length := by
  unfold wr
  split
  · exact put_len (by omega)
  · rfl
theorem wr_by {xs ys : List Nat} {i : Nat} (h : BY xs) (k : BY ys) : BY (wr xs i ys) := by
  unfold wr
  split
  · exact put_by h k
  · exact h
/-- The error of an access to n bytes from index i on. -/
def er (len i n : Nat) : Int := if n = 0 ∨ i + n ≤ len then 0 else 4
theorem er_in {len i n : Nat} (h : i + n ≤ len) : er len i n = 0 := if_pos (.inr h)
theorem er_zero (len i : Nat) : er len i 0 = 0 := if_pos (.inl rfl)
theorem er_out {len i n : Nat} (h : n ≠ 0) (h' : ¬ i + n ≤ len) : er len i n = 4 := if_neg (by omega)
/-- The n bytes from index i on, if they are there. -/
def rd (xs : List Nat) (i n : Nat) : List Nat := if i + n ≤ xs.length then (xs.drop i).take n else []
theorem rd_len {xs : List Nat} {i n : Nat} (h : i + n ≤ xs.length) : (rd xs i n).length = n := by unfold rd; rw [if_pos h]; simp; omega
theorem rd_zero (xs : List Nat) (i : Nat) : rd xs i 0 = [] := by unfold rd; split <;> simp
theorem rd_get {xs : List Nat} {i n j : Nat} (h : i + n ≤ xs.length) (hj : j < n) : (rd xs i n).getD j 0 = xs.getD (i + j) 0 := by
  unfold rd
  rw [if_pos h]
  simp only [List.getD_eq_getElem?_getD]
  rw [List.getElem?_take, if_pos hj, List.getElem?_drop]
theorem rd_by {xs : List Nat} {i n : Nat} (h : BY xs) : BY (rd xs i n) := by
  unfold rd
  split
  · exact fun x hx => h _ (List.mem_of_mem_drop (List.mem_of_mem_take hx))
  · intro x hx; cases hx
/-- The bytes of a word, and the word of the four bytes from index i on. -/
def four (v : Int) : List Nat := [(v % 4294967296).toNat % 256, (v % 4294967296).toNat / 256 % 256, (v % 4294967296).toNat / 65536 % 256, (v % 4294967296).toNat / 16777216 % 256]
theorem four_len (v : Int) : (four v).length = 4 := rfl
theorem four_by (v : Int) : BY (four v) := by
  intro x hx
  simp only [four, List.mem_cons, List.not_mem_nil, or_false] at hx
  omega
def wv (xs : List Nat) (i : Nat) : Int := if i + 4 ≤ xs.length then wd (xs.getD i 0 + xs.getD (i + 1) 0 * 256 + xs.getD (i + 2) 0 * 65536 + xs.getD (i + 3) 0 * 16777216) else 0
def bv (xs : List Nat) (i : Nat) : Nat := if i + 1 ≤ xs.length then xs.getD i 0 else 0

/-! Frames. -/
theorem g_trans {a b c : World} {r : Option Nat} (h : a.grownBy b r) (k : b.grownBy c r) : a.grownBy c r :=
  ⟨k.os.trans h.os, k.tape.trans h.tape, k.output.trans h.output, Nat.le_trans h.size k.size, fun i hi hr => (k.block i (Nat.lt_of_lt_of_le hi h.size) hr).trans (h.block i hi hr)⟩
theorem g_wide {a b : World} {r : Option Nat} (h : a.grownBy b none) : a.grownBy b r := ⟨h.os, h.tape, h.output, h.size, fun i hi _ => h.block i hi (by simp)⟩
theorem g_new {a b c : World} {g : Nat} (h : a.grownBy b none) (k : b.grownBy c (some g)) (hg : a.heap.size ≤ g) : a.grownBy c none :=
  ⟨k.os.trans h.os, k.tape.trans h.tape, k.output.trans h.output, Nat.le_trans h.size k.size, fun i hi _ => (k.block i (Nat.lt_of_lt_of_le hi h.size) (by intro e; cases e; omega)).trans (h.block i hi (by simp))⟩
theorem g_set (w : World) (g i : Nat) (u : Value) : w.grownBy (w.setCell ⟨g, i, none⟩ u) (some g) :=
  ⟨rfl, rfl, rfl, by simp [World.setCell], fun k _ hne => Below.heap_setCell _ _ _ _ (fun e => hne (by rw [e]))⟩
theorem g_row (w : World) (g : Nat) (cs : Array Value) : w.grownBy (w.setRow g cs) (some g) :=
  ⟨rfl, rfl, rfl, by simp [World.setRow], fun k _ hne => setRow_other w g k _ (fun e => hne (by rw [e]))⟩
theorem g_below {a b : World} {g B : Nat} (h : a.grownBy b (some g)) (hg : B ≤ g) (hB : B ≤ a.heap.size) : Below B a b :=
  ⟨h.os, h.tape, h.output, h.size, fun k hk => h.block k (by omega) (by intro e; cases e; omega)⟩
theorem g_of_below {a b : World} (h : Below a.heap.size a b) : a.grownBy b none := ⟨h.os, h.tape, h.output, h.size, fun k hk _ => h.block k hk⟩
theorem g_below0 {a b : World} (h : a.grownBy b none) : Below a.heap.size a b := ⟨h.os, h.tape, h.output, h.size, fun k hk => h.block k hk (by simp)⟩
theorem g_drew {a b : World} {r : Option Nat} (h : a.grownBy b r) (n : Nat) : a.grownBy (b.drewN n) r := by
  induction n with
  | zero => exact h
  | succ n ih => exact ⟨ih.os, ih.tape, ih.output, ih.size, ih.block⟩

/-! A memory. -/
def pv (p : Nat) : Value := .pointer (some ⟨p, 0, none⟩)
structure MemAt (w : World) (p g : Nat) (xs : List Nat) : Prop where
  obj : w.heap[p]? = some (.cells #[.slice (some ⟨g, 0, none⟩) xs.length xs.length, .pointer (some ⟨p, 0, none⟩)] 46 (0, 0))
  row : w.heap[g]? = some (.cells (bs xs).toArray 5 (0, 0))
  big : xs.length ≤ 65536
  small : 1024 ≤ xs.length
  even : xs.length % 4 = 0
  by_ : BY xs
theorem heap_lt {w : World} {k : Nat} {o : Obj} (h : w.heap[k]? = some o) : k < w.heap.size := (Array.getElem?_eq_some_iff.1 h).1
section
variable {w w' : World} {p g : Nat} {xs : List Nat}
theorem MemAt.ne (h : MemAt w p g xs) : p ≠ g := by
  intro e
  have h1 := h.obj
  rw [e, h.row] at h1
  simp at h1
theorem MemAt.plt (h : MemAt w p g xs) : p < w.heap.size := heap_lt h.obj
theorem MemAt.glt (h : MemAt w p g xs) : g < w.heap.size := heap_lt h.row
theorem MemAt.c0 (h : MemAt w p g xs) : w.cell? ⟨p, 0, none⟩ = some (.slice (some ⟨g, 0, none⟩) xs.length xs.length) := by rw [cell_of_row w p 0 _ _ _ h.obj]; rfl
theorem MemAt.c1 (h : MemAt w p g xs) : w.cell? ⟨p, 1, none⟩ = some (.pointer (some ⟨p, 0, none⟩)) := by rw [cell_of_row w p 1 _ _ _ h.obj]; rfl
theorem MemAt.cell (h : MemAt w p g xs) {j : Nat} (hj : j < xs.length) : w.cell? ⟨g, j, none⟩ = some (bc xs j) := by
  rw [cell_of_row w g j _ _ _ h.row]
  simpa using bs_at hj
theorem MemAt.frozen (h : MemAt w p g xs) (j : Nat) : w.frozen? ⟨g, j, none⟩ = false := by
  have := h.row
  simp [World.frozen?, this]
theorem MemAt.kept (h : MemAt w p g xs) {r : Option Nat} (hg : w.grownBy w' r) (h1 : some p ≠ r) (h2 : some g ≠ r) : MemAt w' p g xs :=
  ⟨(hg.block p h.plt h1).trans h.obj, (hg.block g h.glt h2).trans h.row, h.big, h.small, h.even, h.by_⟩
theorem MemAt.kept0 (h : MemAt w p g xs) (hg : w.grownBy w' none) : MemAt w' p g xs := h.kept hg (by simp) (by simp)
theorem MemAt.stored (h : MemAt w p g xs) {ys : List Nat} (hl : ys.length = xs.length) (hb : BY ys) (hg : w.grownBy w' (some g)) (hr : w'.heap[g]? = some (.cells (bs ys).toArray 5 (0, 0))) : MemAt w' p g ys :=
  ⟨by rw [hl]; exact (hg.block p h.plt (by intro e; cases e; exact h.ne rfl)).trans h.obj, hr, hl ▸ h.big, hl ▸ h.small, hl ▸ h.even, hb⟩
theorem MemAt.set (h : MemAt w p g xs) {i v : Nat} (hv : v < 256) : MemAt (w.setCell ⟨g, i, none⟩ (.int .u8 (v : Int))) p g (xs.set i v) := by
  refine h.stored (by simp) ?_ (g_set _ _ _ _) ?_
  · intro x hx
    rcases List.mem_or_eq_of_mem_set hx with hx | rfl
    · exact h.by_ _ hx
    · exact hv
  · have := h.row
    simp [World.setCell, Array.getElem?_modify, this, bs_set]
end

/-! Slices of bytes that can be read. -/
structure RS (w : World) (A : Option Addr) (c : Nat) (xs : List Nat) : Prop where
  le : xs.length ≤ c
  mx : c ≤ maxLen
  by_ : BY xs
  rd : ∀ j, j < xs.length → ∃ ad, A = some ad ∧ w.cell? (ad.add j) = some (bc xs j)
def Sep (A : Option Addr) (g : Nat) : Prop := ∀ ad, A = some ad → ad.block ≠ g
/-- The slice A' is the slice A, or lies in new memory. -/
def New (w : World) (A A' : Option Addr) : Prop := A' = A ∨ ∀ ad, A' = some ad → w.heap.size ≤ ad.block
def Fresh (w : World) (A : Option Addr) : Prop := ∀ ad, A = some ad → w.heap.size ≤ ad.block
theorem New.sep {w : World} {A A' : Option Addr} {g : Nat} (h : New w A A') (hs : Sep A g) (hg : g < w.heap.size) : Sep A' g := by
  rcases h with rfl | h
  · exact hs
  · intro ad e e'
    have := h ad e
    omega
theorem Fresh.sep {w : World} {A : Option Addr} {g : Nat} (h : Fresh w A) (hg : g < w.heap.size) : Sep A g := by
  intro ad e e'
  have := h ad e
  omega
theorem lt_of_cell {w : World} {a : Addr} {v : Value} (h : w.cell? a = some v) : a.block < w.heap.size := World.block_lt_of_cell? w a h
theorem add_block (a : Addr) (n : Nat) : (a.add n).block = a.block := by unfold Addr.add; split <;> rfl
theorem add_add_ (a : Addr) (i j : Nat) : (a.add i).add j = a.add (i + j) := by
  unfold Addr.add
  by_cases hi : i = 0 <;> by_cases hj : j = 0 <;> simp [hi, hj, Nat.add_assoc]
theorem add_plain (g o j : Nat) : (⟨g, o, none⟩ : Addr).add j = ⟨g, o + j, none⟩ := by unfold Addr.add; split <;> simp_all
theorem RS.nil (w : World) : RS w none 0 [] := ⟨Nat.le_refl _, by simp [maxLen], (fun _ h => nomatch h), (fun j h => absurd h (by simp))⟩
theorem RS.kept {w w' : World} {A : Option Addr} {c : Nat} {xs : List Nat} {r : Option Nat} (h : RS w A c xs) (hg : w.grownBy w' r) (hs : ∀ ad, A = some ad → some ad.block ≠ r) : RS w' A c xs :=
  ⟨h.le, h.mx, h.by_, fun j hj => by
    obtain ⟨ad, e, hc⟩ := h.rd j hj
    exact ⟨ad, e, hg.cell hc (by rw [add_block]; exact hs ad e)⟩⟩
theorem RS.kept0 {w w' : World} {A : Option Addr} {c : Nat} {xs : List Nat} (h : RS w A c xs) (hg : w.grownBy w' none) : RS w' A c xs := h.kept hg (by simp)
theorem RS.keptS {w w' : World} {A : Option Addr} {c g : Nat} {xs : List Nat} (h : RS w A c xs) (hg : w.grownBy w' (some g)) (hs : Sep A g) : RS w' A c xs := h.kept hg (fun ad e he => hs ad e (by cases he; rfl))
theorem RS.keptP {w w' : World} {A : Option Addr} {c g : Nat} {xs : List Nat} (h : RS w A c xs) (hg : w.grownBy w' (some g)) (hs : 0 < xs.length → Sep A g) : RS w' A c xs :=
  ⟨h.le, h.mx, h.by_, fun j hj => (h.keptS hg (hs (by omega))).rd j hj⟩
/-- A row of the call's own. -/
def OwnB (w : World) (B : Nat) (A : Option Addr) (c : Nat) (xs : List Nat) : Prop := w.ownsRow B 5 1 (.slice A xs.length c) xs.length (bs xs)
theorem OwnB.rs {w : World} {B c : Nat} {A : Option Addr} {xs : List Nat} (h : OwnB w B A c xs) (hb : BY xs) : RS w A c xs ∧ (∀ ad, A = some ad → B ≤ ad.block) ∧ (A = none ∨ ∃ g, A = some ⟨g, 0, none⟩) := by
  rcases h.2 with ⟨hv, h0⟩ | ⟨g, cap, cur, hv, hB, hh, hnc, hm, hcs, hx⟩
  · injection hv with h1 h2 h3
    subst h1
    obtain rfl : xs = [] := List.eq_nil_of_length_eq_zero h0
    exact ⟨⟨by simp, by rw [h3]; simp [maxLen], hb, (fun j h => absurd h (by simp))⟩, (fun _ e => nomatch e), .inl rfl⟩
  · injection hv with h1 h2 h3
    subst h1 h3
    refine ⟨⟨hnc, hm, hb, fun j hj => ⟨_, rfl, ?_⟩⟩, (fun ad e => by cases e; exact hB), .inr ⟨g, rfl⟩⟩
    exact World.ownsRow.cells h rfl j _ (bs_at hj)
theorem byte_info : (Try.prog.info? 5).map (fun i => (i.zero, i.size, i.bytes)) = some (some (.int .u8 0), 1, 1) := by kernel_rfl
end Go.Proofs.Ytjdinppblejcdaa
