/- The row of an instruction in the program's tables. -/
import Derived.Test.YtlockfoidhndeaaDoorVars
namespace Go.Proofs.YtlockfoidhndeaaDoor
open Go Go.RowKit

theorem g_lt {w : World} {p : Addr} {v : Value} (h : w.cell? p = some v) : p.block < w.heap.size := by
  unfold World.cell? at h
  rcases Nat.lt_or_ge p.block w.heap.size with h' | h'
  · exact h'
  · rw [Array.getElem?_eq_none h'] at h; simp at h
theorem strOf_empty (l : List UInt8) : (strOf l).toList.isEmpty = l.isEmpty := by
  rw [Lib.toList_data]
  simp [strOf]
theorem ret_row {s t : ByteArray} {a b c d : Int} {p q : Bool} (h : s = t) (h1 : a = b) (h2 : c = d) (h3 : p = q) :
    Ending.returned (.tuple #[.agg #[.string s, .int .i64 a, .int .i64 c], .bool p]) = .returned (.tuple #[.agg #[.string t, .int .i64 b, .int .i64 d], .bool q]) := by rw [h, h1, h2, h3]
theorem neq_empty (s : List UInt8) (p : Bool) (hp : (!s.isEmpty) = p) : (!(strOf s).toList.isEmpty) = p := by rw [strOf_empty]; exact hp
/-- What rowOf returns. -/
def RowIs (f a : Int) (w : World) (e : Ending) (w' : World) : Prop :=
  e = .returned (.tuple #[.agg #[.string (strOf (nm f a)), .int .i64 (tk f a), .int .i64 (lv f a)], .bool (ex f a)]) ∧ Below w.heap.size w w'
set_option maxHeartbeats 1000000 in
theorem rowOf_fn (f : Nat) (a : Int) (h : f < 15) (w : World) (hv : Vars w) :
    Calls Tryd.prog 30 #[.agg #[.int .u8 (f : Int), .int .i32 a]] w (RowIs f a w) := by
  obtain ⟨c0, c1, c2⟩ := hv.1.cells f h a
  have hlt : decide ((f : Int) < 15) = true := by simp; omega
  have hz : 0 < w.heap.size := g_lt c0
  clear hv
  unfold RowIs
  go_enter Tryd.func30, Tryd.ntmps30
  go_wp2
  exact bodyPost_ret (v := .tuple #[.agg #[.string (strOf (nm f a)), .int .i64 (tk f a), .int .i64 (lv f a)], .bool (!(strOf (nm f a)).toList.isEmpty)]) (by simp [results, Tryd.results30, go_sem]) rfl
    ⟨ret_row rfl rfl rfl (neq_empty _ _ rfl), ((Below.refl _ _).alloc (Nat.le_refl _) _).alloc (by simp) _⟩
set_option maxHeartbeats 1000000 in
theorem rowOf_op (a : Nat) (h : a < 90) (w : World) (hv : Vars w) :
    Calls Tryd.prog 30 #[.agg #[.int .u8 15, .int .i32 (a : Int)]] w (RowIs 15 a w) := by
  have c0 := hv.2.cell a h
  have h1 : decide ((0 : Int) ≤ (a : Int)) = true := by simp
  have h2 : decide ((a : Int) < 90) = true := by simp; omega
  have hz : 1 < w.heap.size := g_lt c0
  have hz0 : 0 < w.heap.size := Nat.zero_lt_of_lt hz
  have C := Lib.hid (fun W => effect_any (a : Int) (by omega) (by omega) W)
  clear hv
  unfold RowIs
  go_enter Tryd.func30, Tryd.ntmps30
  go_wp2_with (go_at_call 50; refine (C.out _).mono ?_; rintro e w' ⟨rfl, rfl⟩)
  exact bodyPost_ret (v := .tuple #[.agg #[.string (strOf (nm 15 a)), .int .i64 (tk 15 a), .int .i64 (lv 15 a)], .bool (!(strOf (nm 15 a)).toList.isEmpty)]) (by simp [results, Tryd.results30, go_sem]) rfl
    ⟨ret_row rfl rfl rfl (neq_empty _ _ rfl), ((Below.refl _ _).alloc (Nat.le_refl _) _).alloc (by simp) _⟩
theorem none_row {f a : Int} (h : rowL f a = ([], 0, 0)) : strOf (nm f a) = ⟨#[]⟩ ∧ tk f a = 0 ∧ lv f a = 0 ∧ ex f a = false := by
  unfold ex nm tk lv
  rw [h]
  exact ⟨rfl, rfl, rfl, rfl⟩
set_option maxHeartbeats 1000000 in
theorem rowOf_out (a : Int) (ha : isW a) (h : a < 0 ∨ 90 ≤ a) (w : World) :
    Calls Tryd.prog 30 #[.agg #[.int .u8 15, .int .i32 a]] w (RowIs 15 a w) := by
  obtain ⟨a0, a1⟩ := ha
  obtain ⟨e0, e1, e2, e3⟩ := none_row (rowL_out h)
  unfold RowIs
  rw [e0, e1, e2, e3]
  clear e0 e1 e2 e3
  rcases (by omega : a < 0 ∨ (0 ≤ a ∧ 90 ≤ a)) with h1 | ⟨h1, h2⟩
  · have h3 : decide ((0 : Int) ≤ a) = false := by simp; omega
    go_enter Tryd.func30, Tryd.ntmps30
    go_wp2
    exact bodyPost_ret (v := .tuple #[.agg #[.string ⟨#[]⟩, .int .i64 0, .int .i64 0], .bool false]) (by simp [results, Tryd.results30, go_sem]) rfl
      ⟨rfl, ((Below.refl _ _).alloc (Nat.le_refl _) _).alloc (by simp) _⟩
  · have h3 : decide ((0 : Int) ≤ a) = true := by simp; omega
    have h4 : decide (a < 90) = false := by simp; omega
    go_enter Tryd.func30, Tryd.ntmps30
    go_wp2
    exact bodyPost_ret (v := .tuple #[.agg #[.string ⟨#[]⟩, .int .i64 0, .int .i64 0], .bool false]) (by simp [results, Tryd.results30, go_sem]) rfl
      ⟨rfl, ((Below.refl _ _).alloc (Nat.le_refl _) _).alloc (by simp) _⟩
set_option maxHeartbeats 1000000 in
theorem rowOf_great (f : Nat) (a : Int) (h : 15 < f) (w : World) :
    Calls Tryd.prog 30 #[.agg #[.int .u8 (f : Int), .int .i32 a]] w (RowIs f a w) := by
  obtain ⟨e0, e1, e2, e3⟩ := none_row (rowL_no (f := (f : Int)) (by omega) a)
  unfold RowIs
  rw [e0, e1, e2, e3]
  clear e0 e1 e2 e3
  have h3 : decide ((f : Int) < 15) = false := by simp; omega
  have h4 : ((f : Int) == 15) = false := by simp; omega
  go_enter Tryd.func30, Tryd.ntmps30
  go_wp2
  exact bodyPost_ret (v := .tuple #[.agg #[.string ⟨#[]⟩, .int .i64 0, .int .i64 0], .bool false]) (by simp [results, Tryd.results30, go_sem]) rfl
    ⟨rfl, ((Below.refl _ _).alloc (Nat.le_refl _) _).alloc (by simp) _⟩
theorem rowOf_any (f a : Int) (hf : 0 ≤ f) (ha : isW a) (w : World) (hv : Vars w) :
    Calls Tryd.prog 30 #[.agg #[.int .u8 f, .int .i32 a]] w (RowIs f a w) := by
  obtain ⟨n, rfl⟩ : ∃ n : Nat, f = (n : Int) := ⟨f.toNat, by omega⟩
  rcases (by omega : n < 15 ∨ n = 15 ∨ 15 < n) with h | rfl | h
  · exact rowOf_fn n a h w hv
  · rcases (by omega : (a < 0 ∨ 90 ≤ a) ∨ (0 ≤ a ∧ a < 90)) with h | ⟨h0, h1⟩
    · exact rowOf_out a ha h w
    · obtain ⟨k, rfl⟩ : ∃ k : Nat, a = (k : Int) := ⟨a.toNat, by omega⟩
      exact rowOf_op k (by omega) w hv
  · exact rowOf_great n a h w
end Go.Proofs.YtlockfoidhndeaaDoor
