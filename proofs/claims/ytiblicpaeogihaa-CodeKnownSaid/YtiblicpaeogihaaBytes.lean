/- Slices of bytes: what can be read, what is a row of a call's own, appends, strings; frames. -/
import Derived.Test.YtiblicpaeogihaaEnc
import Derived.Test.YtiblicpaeogihaaRows
import Derived.WalkKit
import Derived.Lib.Hide
import Derived.Deep.QuietTactic
import Derived.WalkSpells
import Derived.WalkLawsBesides
import Derived.Handy
import Derived.Laws.Shifts
import Derived.BigQuiet
import Derived.Deep.AppendLies
import Derived.Laws.OwnMore
import Derived.OwnWalk
import Derived.Laws.CopyOwn
import Derived.Laws.BytesArg
namespace Go.Proofs.Ytiblicpaeogihaa
open Go Go.RowKit

/-- A word; the word of a number. -/
def isW (a : Int) : Prop := -2147483648 ≤ a ∧ a ≤ 2147483647
theorem isW_wrap32 (x : Int) : isW (wrap32 x) := by unfold isW wrap32; omega
theorem isW_of_wf {a : Int} (h : (Lit.int .i32 a).wf = true) : isW a := by
  simp only [Lit.wf, IntKind.min, IntKind.max, IntKind.signed, IntKind.bits, Bool.and_eq_true, decide_eq_true_eq, if_true] at h
  exact ⟨by omega, by omega⟩
theorem ret_i {k : IntKind} {a b : Int} (h : a = b) : Ending.returned (.int k a) = .returned (.int k b) := by rw [h]
theorem ret_ii {k l : IntKind} {a b c d : Int} (h : a = b) (h' : c = d) : Ending.returned (.tuple #[.int k a, .int l c]) = .returned (.tuple #[.int k b, .int l d]) := by rw [h, h']
theorem ret_b {p q : Bool} (h : p = q) : Ending.returned (.bool p) = .returned (.bool q) := by rw [h]
theorem at_ {P : Program} {f : FuncId} {args : Array Value} {w : World} {R : World → Prop} {x y : Ending} (h : Calls P f args w fun e w' => e = x ∧ R w') (hxy : x = y) : Calls P f args w fun e w' => e = y ∧ R w' := by subst hxy; exact h

/-- The cells of a list of bytes. -/
def bs (xs : List Nat) : List Value := xs.map fun (n : Nat) => Value.int .u8 (n : Int)
def bc (xs : List Nat) (j : Nat) : Value := .int .u8 ((xs.getD j 0 : Nat) : Int)
theorem bs_len (xs : List Nat) : (bs xs).length = xs.length := by simp [bs]
theorem bs_at {xs : List Nat} {j : Nat} (h : j < xs.length) : (bs xs)[j]? = some (bc xs j) := by simp [bs, bc, h]
theorem bs_app (xs ys : List Nat) : bs (xs ++ ys) = bs xs ++ bs ys := by simp [bs]
theorem bs_set (xs : List Nat) (i v : Nat) : bs (xs.set i v) = (bs xs).set i (.int .u8 (v : Int)) := by simp [bs]
theorem bs_one (xs : List Nat) : ∀ v ∈ bs xs, v.oneCell' = true := by
  intro v hv
  simp only [bs, List.mem_map] at hv
  obtain ⟨n, _, rfl⟩ := hv
  rfl
def BY (xs : List Nat) : Prop := ∀ x ∈ xs, x < 256
theorem BY.get {xs : List Nat} (h : BY xs) (j : Nat) : xs.getD j 0 < 256 := by
  by_cases hj : j < xs.length
  · have e : xs.getD j 0 = xs[j] := by simp [hj]
    rw [e]
    exact h _ (List.getElem_mem hj)
  · have e : xs.getD j 0 = 0 := by simp [List.getElem?_eq_none (show xs.length ≤ j by omega)]
    rw [e]; omega

/-! Frames. -/
theorem g_trans {a b c : World} {r : Option Nat} (h : a.grownBy b r) (k : b.grownBy c r) : a.grownBy c r :=
  ⟨k.os.trans h.os, k.tape.trans h.tape, k.output.trans h.output, Nat.le_trans h.size k.size, fun i hi hr => (k.block i (Nat.lt_of_lt_of_le hi h.size) hr).trans (h.block i hi hr)⟩
theorem g_wide {a b : World} {r : Option Nat} (h : a.grownBy b none) : a.grownBy b r := ⟨h.os, h.tape, h.output, h.size, fun i hi _ => h.block i hi (by simp)⟩
theorem g_new {a b c : World} {g : Nat} (h : a.grownBy b none) (k : b.grownBy c (some g)) (hg : a.heap.size ≤ g) : a.grownBy c none :=
  ⟨k.os.trans h.os, k.tape.trans h.tape, k.output.trans h.output, Nat.le_trans h.size k.size, fun i hi _ => (k.block i (Nat.lt_of_lt_of_le hi h.size) (by intro e; cases e; omega)).trans (h.block i hi (by simp))⟩
theorem g_set (w : World) (g i : Nat) (u : Value) : w.grownBy (w.setCell ⟨g, i, none⟩ u) (some g) :=
  ⟨rfl, rfl, rfl, by simp [World.setCell], fun k _ hne => Below.heap_setCell _ _ _ _ (fun e => hne (by rw [e]))⟩
theorem g_row (w : World) (g : Nat) (cs : Array Value) : w.grownBy (w.setRow g cs) (some g) :=
  ⟨rfl, rfl, rfl, by simp [World.setRow], fun k _ hne => setRow_other w g k _ (fun e => hne (by rw [e]))⟩
theorem g_below {a b : World} {g B : Nat} (h : a.grownBy b (some g)) (hg : B ≤ g) (hB : B ≤ a.heap.size) : Below B a b :=
  ⟨h.os, h.tape, h.output, h.size, fun k hk => h.block k (by omega) (by intro e; cases e; omega)⟩
theorem g_of_below {a b : World} (h : Below a.heap.size a b) : a.grownBy b none := ⟨h.os, h.tape, h.output, h.size, fun k hk _ => h.block k hk⟩
theorem g_below0 {a b : World} (h : a.grownBy b none) : Below a.heap.size a b := ⟨h.os, h.tape, h.output, h.size, fun k hk => h.block k hk (by simp)⟩
theorem g_drew {a b : World} {r : Option Nat} (h : a.grownBy b r) (n : Nat) : a.grownBy (b.drewN n) r := by
  induction n with
  | zero => exact h
  | succ n ih => exact ⟨ih.os, ih.tape, ih.output, ih.size, ih.block⟩

theorem heap_lt {w : World} {k : Nat} {o : Obj} (h : w.heap[k]? = some o) : k < w.heap.size := (Array.getElem?_eq_some_iff.1 h).1
/-! Slices of bytes that can be read. -/
structure RS (w : World) (A : Option Addr) (c : Nat) (xs : List Nat) : Prop where
  le : xs.length ≤ c
  mx : c ≤ maxLen
  by_ : BY xs
  rd : ∀ j, j < xs.length → ∃ ad, A = some ad ∧ w.cell? (ad.add j) = some (bc xs j)
def Sep (A : Option Addr) (g : Nat) : Prop := ∀ ad, A = some ad → ad.block ≠ g
/-- The slice A' is the slice A, or lies in new memory. -/
def New (w : World) (A A' : Option Addr) : Prop := A' = A ∨ ∀ ad, A' = some ad → w.heap.size ≤ ad.block
def Fresh (w : World) (A : Option Addr) : Prop := ∀ ad, A = some ad → w.heap.size ≤ ad.block
theorem New.sep {w : World} {A A' : Option Addr} {g : Nat} (h : New w A A') (hs : Sep A g) (hg : g < w.heap.size) : Sep A' g := by
  rcases h with rfl | h
  · exact hs
  · intro ad e e'
    have := h ad e
    omega
theorem Fresh.sep {w : World} {A : Option Addr} {g : Nat} (h : Fresh w A) (hg : g < w.heap.size) : Sep A g := by
  intro ad e e'
  have := h ad e
  omega
theorem lt_of_cell {w : World} {a : Addr} {v : Value} (h : w.cell? a = some v) : a.block < w.heap.size := World.block_lt_of_cell? w a h
theorem add_block (a : Addr) (n : Nat) : (a.add n).block = a.block := by unfold Addr.add; split <;> rfl
theorem add_add_ (a : Addr) (i j : Nat) : (a.add i).add j = a.add (i + j) := by
  unfold Addr.add
  by_cases hi : i = 0 <;> by_cases hj : j = 0 <;> simp [hi, hj, Nat.add_assoc]
theorem add_plain (g o j : Nat) : (⟨g, o, none⟩ : Addr).add j = ⟨g, o + j, none⟩ := by unfold Addr.add; split <;> simp_all
theorem RS.nil (w : World) : RS w none 0 [] := ⟨Nat.le_refl _, by simp [maxLen], (fun _ h => nomatch h), (fun j h => absurd h (by simp))⟩
theorem RS.kept {w w' : World} {A : Option Addr} {c : Nat} {xs : List Nat} {r : Option Nat} (h : RS w A c xs) (hg : w.grownBy w' r) (hs : ∀ ad, A = some ad → some ad.block ≠ r) : RS w' A c xs :=
  ⟨h.le, h.mx, h.by_, fun j hj => by
    obtain ⟨ad, e, hc⟩ := h.rd j hj
    exact ⟨ad, e, hg.cell hc (by rw [add_block]; exact hs ad e)⟩⟩
theorem RS.kept0 {w w' : World} {A : Option Addr} {c : Nat} {xs : List Nat} (h : RS w A c xs) (hg : w.grownBy w' none) : RS w' A c xs := h.kept hg (by simp)
theorem RS.keptS {w w' : World} {A : Option Addr} {c g : Nat} {xs : List Nat} (h : RS w A c xs) (hg : w.grownBy w' (some g)) (hs : Sep A g) : RS w' A c xs := h.kept hg (fun ad e he => hs ad e (by cases he; rfl))
theorem RS.keptP {w w' : World} {A : Option Addr} {c g : Nat} {xs : List Nat} (h : RS w A c xs) (hg : w.grownBy w' (some g)) (hs : 0 < xs.length → Sep A g) : RS w' A c xs :=
  ⟨h.le, h.mx, h.by_, fun j hj => (h.keptS hg (hs (by omega))).rd j hj⟩
/-- A row of the call's own. -/
def OwnB (w : World) (B : Nat) (A : Option Addr) (c : Nat) (xs : List Nat) : Prop := w.ownsRow B 5 1 (.slice A xs.length c) xs.length (bs xs)
theorem OwnB.rs {w : World} {B c : Nat} {A : Option Addr} {xs : List Nat} (h : OwnB w B A c xs) (hb : BY xs) : RS w A c xs ∧ (∀ ad, A = some ad → B ≤ ad.block) ∧ (A = none ∨ ∃ g, A = some ⟨g, 0, none⟩) := by
  rcases h.2 with ⟨hv, h0⟩ | ⟨g, cap, cur, hv, hB, hh, hnc, hm, hcs, hx⟩
  · injection hv with h1 h2 h3
    subst h1
    obtain rfl : xs = [] := List.eq_nil_of_length_eq_zero h0
    exact ⟨⟨by simp, by rw [h3]; simp [maxLen], hb, (fun j h => absurd h (by simp))⟩, (fun _ e => nomatch e), .inl rfl⟩
  · injection hv with h1 h2 h3
    subst h1 h3
    refine ⟨⟨hnc, hm, hb, fun j hj => ⟨_, rfl, ?_⟩⟩, (fun ad e => by cases e; exact hB), .inr ⟨g, rfl⟩⟩
    exact World.ownsRow.cells h rfl j _ (bs_at hj)
theorem byte_info : (Try.prog.info? 5).map (fun i => (i.zero, i.size, i.bytes)) = some (some (.int .u8 0), 1, 1) := by kernel_rfl
theorem RS.some_ {A : Option Addr} {c : Nat} {xs : List Nat} {w : World} (R : RS w A c xs) (h : 0 < xs.length) : ∃ ad, A = some ad ∧ ∀ j, j < xs.length → w.cell? (ad.add j) = some (bc xs j) := by
  obtain ⟨ad, rfl, _⟩ := R.rd 0 h
  refine ⟨ad, rfl, fun j hj => ?_⟩
  obtain ⟨ad', e, hc⟩ := R.rd j hj
  cases e
  exact hc
theorem add_succ_ (a : Addr) (k : Nat) : a.add (k + 1) = ⟨a.block, a.off + (k + 1), none⟩ := by unfold Addr.add; simp
/-- The string of a list of bytes. -/
def str (xs : List Nat) : ByteArray := strOfNums (xs.map fun (n : Nat) => (n : Int))
theorem str_any {A : Option Addr} {c : Nat} {xs : List Nat} {w : World} (R : RS w A c xs) (n : Nat) (hn : n = xs.length) : (convert 24 9 (.slice A n c)).run Try.prog w = .ok (.string (str xs)) w := by
  subst hn
  rcases A with _ | ad
  · have h0 : xs = [] := by
      rcases Nat.eq_zero_or_pos xs.length with h | h
      · exact List.eq_nil_of_length_eq_zero h
      · obtain ⟨ad, e, _⟩ := R.rd 0 h
        cases e
    subst h0
    exact run_convert_bytes_nil w _ _ Try.underlying24 Try.underlying5 _ _ _ Try.underlying9
  · rw [run_convert_bytes_string w _ _ 5 _ _ _ Try.underlying24 Try.underlying5 Try.underlying9]
    have hl : (loadCells ad xs.length).run Try.prog w = .ok ((xs.map fun (n : Nat) => (n : Int)).map (Value.int .u8)).toArray w := by
      have := run_loadCells_list (P := Try.prog) w ad (bs xs) (fun j v hj => by
        by_cases h : j < xs.length
        · obtain ⟨ad', e, hc⟩ := R.rd j h
          cases e
          rw [bs_at h] at hj
          cases hj
          exact hc
        · rw [List.getElem?_eq_none (by rw [bs_len]; omega)] at hj; cases hj)
      rw [bs_len] at this
      rw [this]
      simp [bs]
    rw [run_bytesToString w ad _ c _ hl, foldl_push_bytes]
    simp [str, strOfNums, ByteArray.empty, ByteArray.emptyWithCapacity]
    rfl
theorem g_app {w0 w w' : World} {v : Value} {n : Nat} {xs : List Value} {e : TypeId} (h : w0.grownBy w none) (hown : w.ownsRow w0.heap.size e 1 v n xs) (k : w.grownBy w' v.ownBlock) : w0.grownBy w' none :=
  ⟨k.os.trans h.os, k.tape.trans h.tape, k.output.trans h.output, Nat.le_trans h.size k.size, fun i hi _ => (k.block i (Nat.lt_of_lt_of_le hi h.size) (fun e => by have := (hown.lt i e.symm).1; omega)).trans (h.block i hi (by simp))⟩
/-- Bytes appended to a row of the call's own. -/
theorem app_bytes {w : World} {ops : Array Oper} {rest : List Oper} {o : Oper} {a : Act} {Q : Exit → Act → World → Prop} (hgd : o.guard = none) (s x : Operand)
    (ho : o.op = .call { callee := .builtin .append, args := #[s, x], argTypes := #[24, 24] }) (base n c m d l : Nat) (A A' : Option Addr) (xs ys : List Nat) (hs : a.eval s = .slice A n c) (hx : a.eval x = .slice A' m d)
    (hown : w.ownsRow base 5 1 (.slice A n c) n (bs xs)) (hy : ys.length = m) (hsrc : ∀ j, j < ys.length → ∃ ad, A' = some ad ∧ w.cell? (ad.add j) = some (bc ys j)) (hl : n + m = l) (h63 : l ≤ 200000) (hbase : base ≤ w.heap.size)
    (h : ∀ A2 c2 w', w'.ownsRow base 5 1 (.slice A2 l c2) l (bs (xs ++ ys)) → w.grownBy w' (Value.slice A n c).ownBlock → wpList Try.prog ops Q rest (a.put o.dst (.slice A2 l c2)) w') : wpList Try.prog ops Q (o :: rest) a w := by
  obtain ⟨i0, hi0, hz0, hz1, hz2⟩ := info_parts byte_info
  have done : ∀ v' w', w'.ownsRow base 5 1 v' (n + m) (bs xs ++ bs ys) → w.grownBy w' (Value.slice A n c).ownBlock → wpList Try.prog ops Q rest (a.put o.dst v') w' := by
    intro v' w' ho' hg'
    rw [← bs_app, hl] at ho'
    rcases ho'.2 with ⟨rfl, h0⟩ | ⟨g, cap, cur, rfl, _⟩
    · rw [h0] at ho' h
      exact h none 0 w' ho' hg'
    · exact h _ _ w' ho' hg'
  rcases A' with _ | ad
  · have h0 : ys = [] := by
      rcases Nat.eq_zero_or_pos ys.length with h | h
      · exact List.eq_nil_of_length_eq_zero h
      · obtain ⟨ad, e, _⟩ := hsrc 0 h
        cases e
    subst h0
    rw [List.length_nil] at hy
    subst hy
    have hrun : (Builtin.append_ #[24, 24] o.type #[.slice A n c, .slice none 0 d]).run Try.prog w = .ok (.slice A n c) w := by
      rcases hown.2 with ⟨hv, h0⟩ | ⟨g, cap, cur, hv, _, _, hnc, _⟩
      · injection hv with h1 h2 h3
        subst h1; subst h3
        simp [Builtin.append_, run_underlying Try.underlying24, sizeOf, typeInfo, hi0, Builtin.lenOf, Builtin.firstCells, h0]
      · injection hv with h1 h2 h3
        subst h1; subst h3
        simp [Builtin.append_, run_underlying Try.underlying24, sizeOf, typeInfo, hi0, Builtin.lenOf, Builtin.firstCells, hnc, storeCells]
    refine wpList_plain hgd fun K hK => ?_
    unfold Oper.wp execOp
    simp only [ho, resolve, invoke, builtin, Sem.run_bind, Sem.run_pure, Result.andThen_ok, List.map_toArray, List.map_cons, List.map_nil, hs, hx, hrun]
    exact hK _ _ (done _ w (by simpa [bs] using hown) (World.grownBy.refl w _))
  · have hcell : ∀ j u, (bs ys)[j]? = some u → w.cell? (ad.add j) = some u := by
      intro j u hj
      by_cases h : j < ys.length
      · obtain ⟨ad', e, hc⟩ := hsrc j h
        cases e
        rw [bs_at h] at hj
        cases hj
        exact hc
      · rw [List.getElem?_eq_none (by rw [bs_len]; omega)] at hj; cases hj
    exact wpList_append_own w hgd s x 24 ho base 5 i0 (.int .u8 0) 1 1 Try.underlying24 hi0 hz0 hz1 hz2 rfl (by omega) (.slice A n c) n (bs xs) hs hown ad m d (bs ys) hx (by rw [bs_len]; omega) hcell (bs_one ys)
      (by unfold maxLen; omega) (by omega) hbase (fun v' w' h1 h2 _ => done v' w' h1 h2)
theorem own_nil' (w : World) (B : Nat) : w.ownsRow B 5 1 (.slice none 0 0) 0 (bs []) := World.ownsRow_nil w B _ 1
theorem rs_of_own {w w' : World} {A : Option Addr} {c n : Nat} {xs : List Nat} (h : w'.ownsRow w.heap.size 5 1 (.slice A n c) n (bs xs)) (hn : n = xs.length) (hb : BY xs) : RS w' A c xs ∧ Fresh w A := by
  subst hn
  have := OwnB.rs (B := w.heap.size) h hb
  exact ⟨this.1, this.2.1⟩
/-- The cells of n bytes 0. -/
def zc (n : Nat) : Array Value := (bs (List.replicate n 0)).toArray
theorem run_zeros (n : Nat) (hn : n ≤ 65536) : ∀ w : World, (Instr.makeSlice 24 (.int .i64 (n : Int)) (.int .i64 (n : Int))).run Try.prog w = .ok (.slice (some ⟨w.heap.size, 0, none⟩) n n) (w.alloc (.cells (zc n) 5)) := fun w => by
  obtain ⟨i0, hi0, hz0, hz1, hz2⟩ := info_parts byte_info
  have h := run_make (P := Try.prog) w 24 5 i0 (.int .u8 0) Try.underlying24 hi0 hz0 .i64 .i64 (n : Int) (n : Int) (by omega) (by omega) (by rw [hz2]; omega) (by omega)
  rw [hz1, Int.toNat_natCast, Nat.mul_one] at h
  rw [h]
  have e := toList_madeCells_one (Value.int .u8 0) n
  have e2 : zc n = madeCells #[Value.int .u8 0] n := by
    unfold zc bs
    rw [List.map_replicate]
    apply Array.ext'
    rw [e]
    rfl
  rw [e2]
  rfl
theorem zc_row (w : World) (n : Nat) : (w.alloc (.cells (zc n) 5)).heap[w.heap.size]? = some (.cells (bs (List.replicate n 0)).toArray 5 (0, 0)) := heap_alloc_new w _
theorem own_row {w : World} {B g : Nat} {xs : List Nat} (h : w.heap[g]? = some (.cells (bs xs).toArray 5 (0, 0))) (hB : B ≤ g) (hm : xs.length ≤ maxLen) : OwnB w B (some ⟨g, 0, none⟩) xs.length xs :=
  ⟨by simp [bs_len], .inr ⟨g, xs.length, _, rfl, hB, h, Nat.le_refl _, hm, by simp [bs_len], by simp [← bs_len xs]⟩⟩
theorem rs_of_row {w : World} {g : Nat} {xs : List Nat} (h : w.heap[g]? = some (.cells (bs xs).toArray 5 (0, 0))) (hm : xs.length ≤ maxLen) (hb : BY xs) : RS w (some ⟨g, 0, none⟩) xs.length xs :=
  (OwnB.rs (own_row h (Nat.zero_le _) hm) hb).1
/-- A slice of bytes that came in: nil, or a row of cap cells that hold the numbers of zs. -/
def Came (w : World) (a : Option Addr) (len cap : Nat) (zs : List Int) : Prop :=
  (a = none ∧ len = 0 ∧ cap = 0 ∧ zs = []) ∨
  ∃ x, a = some x ∧ len ≤ cap ∧ cap ≤ maxLen ∧ zs.length = cap ∧ (∀ i, i < zs.length → w.cell? (x.add i) = some (.int .u8 (zs.getD i 0))) ∧ ∀ n ∈ zs, (Lit.int .u8 n).wf = true
theorem byte_of_wf {a : Int} (h : (Lit.int .u8 a).wf = true) : 0 ≤ a ∧ a < 256 := by
  simp only [Lit.wf, IntKind.min, IntKind.max, IntKind.signed, IntKind.bits, Bool.and_eq_true] at h
  have h1 := h.1
  have h2 := h.2
  simp at h1 h2
  omega
theorem Came.rs {w : World} {a : Option Addr} {len cap : Nat} {zs : List Int} (h : Came w a len cap zs) : ∃ xs : List Nat, xs.length = len ∧ RS w a cap xs ∧ ∀ ad, a = some ad → 0 < cap → ad.block < w.heap.size := by
  rcases h with ⟨rfl, rfl, rfl, rfl⟩ | ⟨x, rfl, hl, hm, hz, hc, hw⟩
  · exact ⟨[], rfl, RS.nil w, fun _ e => nomatch e⟩
  · refine ⟨(zs.take len).map Int.toNat, by simp; omega, ⟨by simp; omega, hm, ?_, ?_⟩, ?_⟩
    · intro y hy
      simp only [List.mem_map] at hy
      obtain ⟨n, hn, rfl⟩ := hy
      have := byte_of_wf (hw n (List.mem_of_mem_take hn))
      omega
    · intro j hj
      simp only [List.length_map, List.length_take] at hj
      refine ⟨x, rfl, ?_⟩
      rw [hc j (by omega)]
      have hj2 : j < zs.length := by omega
      have := byte_of_wf (hw zs[j] (List.getElem_mem hj2))
      unfold bc
      congr 2
      simp only [List.getD_eq_getElem?_getD, List.getElem?_map, List.getElem?_take, if_pos (show j < len by omega), List.getElem?_eq_getElem hj2, Option.map_some, Option.getD_some]
      omega
    · intro ad e h0
      cases e
      have := lt_of_cell (hc 0 (by omega))
      rwa [add_block] at this
theorem own_lit (w : World) : (w.alloc (.cells #[] 5)).ownsRow w.heap.size 5 1 (.slice (some ⟨w.heap.size, 0, none⟩) 0 0) 0 (bs []) :=
  World.ownsRow_made w #[] 0 (Nat.le_refl _) (by simp [maxLen]) rfl
end Go.Proofs.Ytiblicpaeogihaa
