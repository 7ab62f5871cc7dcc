/- The law on memories that do not exist returns true for every call. -/
import Derived.Test.YtjdinppblejcdaaOpen
namespace Go.Proofs.Ytjdinppblejcdaa
open Go Go.RowKit

/-- At the world w the memory q is none that was made. -/
def NotMade (w : World) (q : Option Addr) : Prop := Calls Try.prog 44 #[.pointer q] w fun e w' => e = .returned (.bool false) ∧ w = w'
section
variable {w : World} {q : Option Addr}
theorem no_wordAt (C : NotMade w q) (a : Int) : Calls Try.prog 46 #[.pointer q, .int .i32 a] w fun e w' => e = .returned (.tuple #[.slice none 0 0, .int .i64 1]) ∧ w = w' := by
  have D := Lib.hid (block_none C (wrap32 (a - a % 4)) 4)
  clear C
  go_enter Try.func46, Try.ntmps46
  go_wp2_with (first
    | (go_at_call 22; (with_reducible refine (Wcnt_any _ _).mono ?_); rintro e w' ⟨rfl, rfl⟩)
    | (go_at_call 49; (with_reducible refine D.out.mono ?_); rintro e w' ⟨rfl, rfl⟩))
  go_ret2
  exact ⟨rfl, rfl⟩
theorem no_Byte (C : NotMade w q) (a : Int) : Calls Try.prog 36 #[.pointer q, .int .i32 a] w fun e w' => e = .returned (.tuple #[.int .u8 0, .int .i64 1]) ∧ w = w' := by
  have D := Lib.hid (block_none C a 1)
  clear C
  go_enter Try.func36, Try.ntmps36
  go_wp2_with (go_at_call 49; (with_reducible refine D.out.mono ?_); rintro e w' ⟨rfl, rfl⟩)
  go_ret2
  exact ⟨rfl, rfl⟩
theorem no_SetByte (C : NotMade w q) (a v : Int) : Calls Try.prog 37 #[.pointer q, .int .i32 a, .int .u8 v] w fun e w' => e = .returned (.int .i64 1) ∧ w = w' := by
  have D := Lib.hid (block_none C a 1)
  clear C
  go_enter Try.func37, Try.ntmps37
  go_wp2_with (go_at_call 49; (with_reducible refine D.out.mono ?_); rintro e w' ⟨rfl, rfl⟩)
  go_ret
  exact ⟨rfl, rfl⟩
theorem no_Word (C : NotMade w q) (a : Int) : Calls Try.prog 19 #[.pointer q, .int .i32 a] w fun e w' => e = .returned (.tuple #[.int .i32 0, .int .i64 1]) ∧ w = w' := by
  have D := Lib.hid (no_wordAt C a)
  clear C
  go_enter Try.func19, Try.ntmps19
  go_wp2_with (go_at_call 46; (with_reducible refine D.out.mono ?_); rintro e w' ⟨rfl, rfl⟩)
  go_ret2
  exact ⟨rfl, rfl⟩
theorem no_SetWord (C : NotMade w q) (a v : Int) : Calls Try.prog 29 #[.pointer q, .int .i32 a, .int .i32 v] w fun e w' => e = .returned (.int .i64 1) ∧ w = w' := by
  have D := Lib.hid (no_wordAt C a)
  clear C
  go_enter Try.func29, Try.ntmps29
  go_wp2_with (go_at_call 46; (with_reducible refine D.out.mono ?_); rintro e w' ⟨rfl, rfl⟩)
  go_ret
  exact ⟨rfl, rfl⟩
theorem no_Read (C : NotMade w q) (a n : Int) : Calls Try.prog 31 #[.pointer q, .int .i32 a, .int .i64 n] w fun e w' => e = .returned (.tuple #[.slice none 0 0, .int .i64 1]) ∧ w = w' := by
  unfold NotMade at C
  have C := Lib.hid C
  go_enter Try.func31, Try.ntmps31
  go_wp2_with (go_at_call 44; (with_reducible refine C.out.mono ?_); rintro e w' ⟨rfl, rfl⟩)
  go_ret2
  exact ⟨rfl, rfl⟩
theorem no_Write (C : NotMade w q) (a : Int) (A : Option Addr) (n c : Nat) (hn : n < 9223372036854775808) : Calls Try.prog 32 #[.pointer q, .int .i32 a, .slice A n c] w fun e w' => e = .returned (.int .i64 1) ∧ w = w' := by
  have D := Lib.hid (block_none C a (n : Int))
  have he : (n : Int) % 18446744073709551616 = n := by omega
  clear C hn
  go_enter Try.func32, Try.ntmps32
  go_wp2_with (go_at_call 49; (with_reducible refine D.out.mono ?_); rintro e w' ⟨rfl, rfl⟩)
  go_ret
  exact ⟨rfl, rfl⟩
theorem no_Move (C : NotMade w q) (a b v : Int) : Calls Try.prog 30 #[.pointer q, .int .i32 a, .int .i32 b, .int .i32 v] w fun e w' => e = .returned (.int .i64 1) ∧ w = w' := by
  have D := Lib.hid (block_none C a (cnt v))
  have E := cnt_cast v
  have hc := cnt_lt v
  generalize cnt v = m at *
  clear C
  go_enter Try.func30, Try.ntmps30
  go_wp2_with (go_at_call 49; (with_reducible refine D.out.mono ?_); rintro e w' ⟨rfl, rfl⟩)
  go_ret
  exact ⟨rfl, rfl⟩
theorem no_Size (C : NotMade w q) : Calls Try.prog 17 #[.pointer q] w fun e w' => e = .returned (.int .i64 0) ∧ w = w' := by
  unfold NotMade at C
  have C := Lib.hid C
  go_enter Try.func17, Try.ntmps17
  go_wp2_with (go_at_call 44; (with_reducible refine C.out.mono ?_); rintro e w' ⟨rfl, rfl⟩)
  go_ret
  exact ⟨rfl, rfl⟩
theorem no_Bytes (C : NotMade w q) : Calls Try.prog 16 #[.pointer q] w fun e w' => e = .returned (.slice none 0 0) ∧ w = w' := by
  unfold NotMade at C
  have C := Lib.hid C
  go_enter Try.func16, Try.ntmps16
  go_wp2_with (go_at_call 44; (with_reducible refine C.out.mono ?_); rintro e w' ⟨rfl, rfl⟩)
  go_ret
  exact ⟨rfl, rfl⟩
theorem no_Copy (C : NotMade w q) : Calls Try.prog 33 #[.pointer q] w fun e w' => e = .returned (.pointer none) ∧ w = w' := by
  unfold NotMade at C
  have C := Lib.hid C
  go_enter Try.func33, Try.ntmps33
  go_wp2_with (go_at_call 44; (with_reducible refine C.out.mono ?_); rintro e w' ⟨rfl, rfl⟩)
  go_ret
  exact ⟨rfl, rfl⟩
end
set_option maxRecDepth 100000 in
set_option maxHeartbeats 8000000 in
theorem none_any {p : Option Addr} {B : Option Addr} {m d : Nat} (hm : m < 9223372036854775808) {q a b v k : Int} {w : World} (C : NotMade (w.alloc (.cells (opc q a b v k B m d) 34)) p) :
    Calls Try.prog 21 #[.pointer p, .agg (opc q a b v k B m d)] w fun e w' => e = .returned (.bool true) ∧ w.grownBy w' none := by
  have G0 := Lib.hid (World.grownBy_alloc w (.cells (opc q a b v k B m d) 34) none)
  have C := Lib.hid C
  obtain ⟨u, E⟩ : ∃ u : Int, v % 256 = u := ⟨_, rfl⟩
  have W := Lib.hid (no_Write C.out a B m d hm)
  clear hm
  unfold opc at *
  go_enter Try.func21, Try.ntmps21
  go_wp2_with (first
    | (go_at_call 36; (with_reducible refine (no_Byte C.out _).mono ?_); rintro e w' ⟨rfl, rfl⟩)
    | (go_at_call 19; (with_reducible refine (no_Word C.out _).mono ?_); rintro e w' ⟨rfl, rfl⟩)
    | (go_at_call 31; (with_reducible refine (no_Read C.out _ _).mono ?_); rintro e w' ⟨rfl, rfl⟩)
    | (go_at_call 37; (with_reducible refine (no_SetByte C.out _ _).mono ?_); rintro e w' ⟨rfl, rfl⟩)
    | (go_at_call 29; (with_reducible refine (no_SetWord C.out _ _).mono ?_); rintro e w' ⟨rfl, rfl⟩)
    | (go_at_call 32; (with_reducible refine W.out.mono ?_); rintro e w' ⟨rfl, rfl⟩)
    | (go_at_call 30; (with_reducible refine (no_Move C.out _ _ _).mono ?_); rintro e w' ⟨rfl, rfl⟩)
    | (go_at_call 17; (with_reducible refine (no_Size C.out).mono ?_); rintro e w' ⟨rfl, rfl⟩)
    | (go_at_call 16; (with_reducible refine (no_Bytes C.out).mono ?_); rintro e w' ⟨rfl, rfl⟩)
    | (go_at_call 33; (with_reducible refine (no_Copy C.out).mono ?_); rintro e w' ⟨rfl, rfl⟩))
  go_ret
  exact ⟨rfl, G0.out⟩
set_option maxRecDepth 100000 in
theorem none_long {B : Option Addr} {m d : Nat} {q a b v k : Int} (w : World) (hm : 70000 < m) :
    Calls Try.prog 5 #[.agg (opc q a b v k B m d)] w fun e w' => e = .returned (.bool true) ∧ Below w.heap.size w w' := by
  have G0 := Lib.hid (World.grownBy_alloc w (.cells (opc q a b v k B m d) 34) none)
  have h : (70000 : Int) < (m : Int) := by omega
  clear hm
  unfold opc at *
  go_enter Try.func5, Try.ntmps5
  go_wp2_with (go_at_call 13; (with_reducible refine (head_any _).mono ?_); rintro e w9 ⟨rfl, g9⟩; have H9 := Lib.hid g9; clear g9)
  go_ret
  exact ⟨rfl, g_below0 (g_trans G0.out H9.out)⟩
theorem two_boxes {w w1 : World} {o1 o2 : Obj} (h : ((w.alloc o1).alloc o2).grownBy w1 none) : w1.heap[w.heap.size]? = some o1 ∧ w1.heap[w.heap.size + 1]? = some o2 ∧ w.grownBy w1 none := by
  have e : (w.alloc o1).heap.size = w.heap.size + 1 := by simp
  refine ⟨?_, ?_, g_trans (g_trans (World.grownBy_alloc w o1 none) (World.grownBy_alloc _ o2 none)) h⟩
  · rw [h.block _ (by simp; omega) (by simp), Below.heap_alloc _ _ _ (by rw [e]; omega)]
    exact heap_alloc_new w o1
  · rw [h.block _ (by simp) (by simp), ← e]
    exact heap_alloc_new _ o2
set_option maxRecDepth 100000 in
set_option maxHeartbeats 8000000 in
theorem none_short {B : Option Addr} {m d : Nat} {q a b v k : Int} (w : World) (hm : m ≤ 70000) :
    Calls Try.prog 5 #[.agg (opc q a b v k B m d)] w fun e w' => e = .returned (.bool true) ∧ Below w.heap.size w w' := by
  have h : ¬ (70000 : Int) < (m : Int) := by omega
  have D := Lib.hid (fun (p : Option Addr) (w1 : World) (C : NotMade (w1.alloc (.cells (opc q a b v k B m d) 34)) p) => none_any (by omega) C)
  have N := Lib.hid (fun (w1 : World) => show NotMade w1 none from made_nil w1)
  have K := Lib.hid (fun (w1 : World) (p : Nat) (hp : w1.heap[p]? = some (.cells #[.slice none 0 0, .pointer none] 46 (0, 0))) => show NotMade (w1.alloc (.cells (opc q a b v k B m d) 34)) (some ⟨p, 0, none⟩) from
    made_zero (by rw [cell_of_row _ p 1 _ _ _ ((Below.heap_alloc w1 _ p (heap_lt hp)).trans hp)]; rfl))
  have BX := Lib.hid (fun (w1 : World) (i : Nat) (u : Value) (H : w1.heap[w.heap.size]? = some (.cells (opc q a b v k B m d) 34 (0, 0))) (hi : (opc q a b v k B m d)[i]? = some u) => show w1.cell? ⟨w.heap.size, i, none⟩ = some u from (cell_of_row w1 _ i _ _ _ H).trans hi)
  clear hm
  unfold opc at *
  go_enter Try.func5, Try.ntmps5
  go_wp2_with (first
    | (go_at_call 21; (with_reducible refine (D.out _ _ (N.out _)).mono ?_); rintro e w1 ⟨rfl, g1⟩; have H1 := Lib.hid (two_boxes g1); clear g1; have c0 := BX.out w1 0 _ H1.out.1 rfl; have c1 := BX.out w1 1 _ H1.out.1 rfl; have c2 := BX.out w1 2 _ H1.out.1 rfl; have c3 := BX.out w1 3 _ H1.out.1 rfl; have c4 := BX.out w1 4 _ H1.out.1 rfl; have c5 := BX.out w1 5 _ H1.out.1 rfl)
    | (go_at_call 21; (with_reducible refine (D.out _ _ (K.out _ _ H1.out.2.1)).mono ?_); rintro e w2 ⟨rfl, g2⟩; have H2 := Lib.hid (g_trans H1.out.2.2 g2); clear g2)
    | (go_at_call 13; (with_reducible refine (head_any _).mono ?_); rintro e w9 ⟨rfl, g9⟩; have H9 := Lib.hid g9; clear g9))
  go_ret
  exact ⟨rfl, g_below0 (g_trans H2.out H9.out)⟩
theorem walkMemNone (cs : List Value) (w : World) (w0 : IsOp w cs) : Calls Try.prog 5 #[.agg cs.toArray] w fun e w' => e = .returned (.bool true) ∧ Below w.heap.size w w' := by
  obtain ⟨q, a, b, v, n, B, d, ys, rfl, _⟩ := w0
  rw [Array.toArray_toList]
  by_cases h : 70000 < ys.length
  · exact none_long w h
  · exact none_short w (by omega)
end Go.Proofs.Ytjdinppblejcdaa
