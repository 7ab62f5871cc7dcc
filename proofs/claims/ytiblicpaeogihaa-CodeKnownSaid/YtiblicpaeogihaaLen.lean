/- The numbers of bytes of encodings; encodings of instructions, valid or not. -/
import Derived.Test.YtiblicpaeogihaaRoom
import Derived.Test.YtiblicpaeogihaaRput
namespace Go.Proofs.Ytiblicpaeogihaa
open Go Go.RowKit

def ln (f : Nat) (v : Int) : Nat := if valid f then (enc f v).length else 0
def pt (f : Nat) (v : Int) : List Nat := if valid f then enc f v else []
def pe (f : Nat) : Int := if valid f then 0 else 2
theorem valid_lt {f : Nat} (h : valid f = true) : f < 16 := by unfold valid at h; simp at h; omega
theorem pt_by (f : Nat) (v : Int) : BY (pt f v) := by
  unfold pt
  split
  · rename_i h
    exact enc_by (valid_lt h)
  · intro x hx; cases hx
theorem pt_len (f : Nat) (v : Int) : (pt f v).length = ln f v := by unfold pt ln; split <;> rfl
theorem ln_le (f : Nat) {v : Int} (hv : isW v) : ln f v ≤ 8 := by
  unfold ln
  split
  · exact enc_len f hv
  · omega
theorem own_nil (w : World) (B : Nat) : OwnB w B none 0 [] := World.ownsRow_nil w B _ 1
/-- A struct of two cells lies in its box, and stays there. -/
theorem box_cells {w w1 : World} {a b : Value} {t : TypeId} (g : (w.alloc (.cells #[a, b] t)).grownBy w1 none) : w1.cell? ⟨w.heap.size, 0, none⟩ = some a ∧ w1.cell? ⟨w.heap.size, 1, none⟩ = some b :=
  ⟨g.cell (by rw [cell_of_row _ _ _ _ _ _ (heap_alloc_new w _)]; rfl) (by simp), g.cell (by rw [cell_of_row _ _ _ _ _ _ (heap_alloc_new w _)]; rfl) (by simp)⟩
/-- New bytes were made: the slice of them, and an error. -/
def Gives (w : World) (e' : Int) (ys : List Nat) (e : Ending) (w' : World) : Prop := ∃ A c, e = .returned (.tuple #[.slice A ys.length c, .int .i64 e']) ∧ OwnB w' w.heap.size A c ys ∧ w.grownBy w' none
theorem Put_any (f : Nat) {v : Int} (hv : isW v) (w : World) : Calls Try.prog 11 #[.agg #[.int .u8 (f : Int), .int .i32 v]] w (Gives w (pe f) (pt f v)) := by
  unfold Gives
  have CV := Lib.hid (fun w => isValid_any f v w)
  unfold pe pt
  cases hf : valid f with
  | false =>
    rw [hf] at CV
    simp only [Bool.false_eq_true, if_false]
    clear hf hv
    go_enter Try.func11, Try.ntmps11
    go_wp2_with (go_at_call 28; (with_reducible refine (CV.out _).mono ?_); rintro e w1 ⟨rfl, g1⟩; have G1 := Lib.hid g1; clear g1)
    go_ret2
    exact ⟨none, 0, rfl, own_nil _ _, g_trans (World.grownBy_alloc w _ none) G1.out⟩
  | true =>
    rw [hf] at CV
    simp only [if_true]
    have CE := Lib.hid (fun (w1 : World) (hw : w.heap.size ≤ w1.heap.size) => enc_any f (valid_lt hf) v hv w1 w.heap.size none 0 0 [] (own_nil' _ _) (by omega) hw)
    unfold Made at CE
    clear hf hv
    generalize enc f v = zs at *
    rw [List.nil_append, Nat.zero_add] at CE
    go_enter Try.func11, Try.ntmps11
    go_wp2_with (first
      | (go_at_call 28; (with_reducible refine (CV.out _).mono ?_); rintro e w1 ⟨rfl, g1⟩; have G1 := Lib.hid (g_trans (World.grownBy_alloc w _ none) g1); obtain ⟨k0, k1⟩ := box_cells g1; clear g1)
      | (go_at_call 29; (with_reducible refine (CE.out _ G1.out.size).mono ?_); rintro e w2 ⟨g2, c2, rfl, o2, g2', l2⟩; have H2 := Lib.hid (And.intro o2 (And.intro g2' l2)); clear o2 g2' l2))
    go_ret2
    exact ⟨_, _, rfl, H2.out.1, g_trans G1.out H2.out.2.1⟩
theorem room_new (w : World) : Room (w.alloc (.cells #[.int .u8 0, .int .u8 0, .int .u8 0, .int .u8 0, .int .u8 0, .int .u8 0, .int .u8 0, .int .u8 0] 62)).drew w.heap.size := ⟨_, heap_alloc_new w _, rfl⟩
theorem room_kept {w w1 w2 : World} {o : Obj} (h : w.grownBy w1 none) (g : (w1.alloc o).drew.grownBy w2 (some w1.heap.size)) : w.grownBy w2 none :=
  g_new (g_drew (g_trans h (World.grownBy_alloc w1 o none)) 1) g h.size
theorem room_box {w1 w2 : World} {o : Obj} {k i : Nat} {u : Value} (h : w1.cell? ⟨k, i, none⟩ = some u) (hk : k < w1.heap.size) (g : (w1.alloc o).drew.grownBy w2 (some w1.heap.size)) : w2.cell? ⟨k, i, none⟩ = some u :=
  g.cell (g_drew (World.grownBy_alloc w1 o none) 1 |>.cell h (by simp)) (by intro e; have e' : k = w1.heap.size := Option.some.inj e; omega)
theorem Len_any (f : Nat) {v : Int} (hv : isW v) (w : World) : Calls Try.prog 13 #[.agg #[.int .u8 (f : Int), .int .i32 v]] w fun e w' => e = .returned (.int .i64 (ln f v : Nat)) ∧ w.grownBy w' none := by
  have CV := Lib.hid (fun w => isValid_any f v w)
  unfold ln
  cases hf : valid f with
  | false =>
    rw [hf] at CV
    simp only [Bool.false_eq_true, if_false]
    clear hf hv
    go_enter Try.func13, Try.ntmps13
    go_wp2_with (go_at_call 28; (with_reducible refine (CV.out _).mono ?_); rintro e w1 ⟨rfl, g1⟩; have G1 := Lib.hid g1; clear g1)
    go_ret
    exact ⟨rfl, g_trans (World.grownBy_alloc w _ none) G1.out⟩
  | true =>
    rw [hf] at CV
    simp only [if_true]
    have CE := Lib.hid (fun (w1 : World) (g : Nat) (R : Room w1 g) => room_any f (valid_lt hf) v hv w1 g 0 R (by have := enc_len f hv; omega))
    unfold InRoom at CE
    clear hf hv
    generalize enc f v = zs at *
    rw [Nat.zero_add] at CE
    go_enter Try.func13, Try.ntmps13
    go_wp2_with (go_at_call 28; (with_reducible refine (CV.out _).mono ?_); rintro e w1 ⟨rfl, g1⟩; have G1 := Lib.hid (g_trans (World.grownBy_alloc w _ none) g1); obtain ⟨k0, k1⟩ := box_cells g1; have hz : w.heap.size < w1.heap.size := (by have := g1.size; simp at this; omega); clear g1)
    go_region_held3 (fun w' => w'.cell? ⟨w.heap.size, 0, none⟩ = some (.int .u8 (f : Int)) ∧ w'.cell? ⟨w.heap.size, 1, none⟩ = some (.int .i32 v)) (first | (exact ⟨k0, k1⟩) | go_keep)
      (first | (go_at_call 29; (with_reducible refine (CE.out _ _ (room_new w1)).mono ?_); rintro e w2 ⟨rfl, g2, o2⟩; have H2 := Lib.hid (room_kept G1.out g2); have k2 := (room_box k0 hz g2); have k3 := (room_box k1 hz g2); clear g2 o2; have k0 := k2; have k1 := k3; clear k2 k3))
    all_goals go_wp2
    go_ret
    exact ⟨rfl, H2.out⟩
theorem own_lower {w' : World} {B B' c : Nat} {A : Option Addr} {xs : List Nat} (h : B ≤ B') (o : OwnB w' B' A c xs) : OwnB w' B A c xs :=
  ⟨o.1, o.2.imp id (fun ⟨g, cap, cur, h1, h2, h3⟩ => ⟨g, cap, cur, h1, Nat.le_trans h h2, h3⟩)⟩
theorem rPut_any (f : Nat) {v : Int} (hv : isW v) (w : World) : Calls Try.prog 12 #[.agg #[.int .u8 (f : Int), .int .i32 v]] w (Gives w (pe f) (pt f v)) := by
  unfold Gives
  have CV := Lib.hid (fun w => Valid_any f v w)
  unfold pe pt
  cases hf : valid f with
  | false =>
    rw [hf] at CV
    simp only [Bool.false_eq_true, if_false]
    clear hf hv
    go_enter Try.func12, Try.ntmps12
    go_wp2_with (go_at_call 30; (with_reducible refine (CV.out _).mono ?_); rintro e w1 ⟨rfl, g1⟩; have G1 := Lib.hid g1; clear g1)
    go_ret2
    exact ⟨none, 0, rfl, own_nil _ _, g_trans (World.grownBy_alloc w _ none) G1.out⟩
  | true =>
    rw [hf] at CV
    simp only [if_true]
    have CE := Lib.hid (fun (w1 : World) => ref_any f (valid_lt hf) v hv w1)
    unfold Made at CE
    have q : (f : Int) < 16 := by have := valid_lt hf; omega
    have q1 : -2147483648 ≤ v := hv.1
    have q2 : v ≤ 2147483647 := hv.2
    clear hf hv
    generalize enc f v = zs at *
    go_enter Try.func12, Try.ntmps12
    go_wp2_with (first
      | (go_at_call 30; (with_reducible refine (CV.out _).mono ?_); rintro e w1 ⟨rfl, g1⟩; have G1 := Lib.hid (g_trans (World.grownBy_alloc w _ none) g1); obtain ⟨k0, k1⟩ := box_cells g1; clear g1)
      | (go_at_call 31; (with_reducible refine (CE.out _).mono ?_); rintro e w2 ⟨g2, c2, rfl, o2, g2', l2⟩; have H2 := Lib.hid (And.intro o2 (And.intro g2' l2)); clear o2 g2' l2))
    go_ret2
    exact ⟨_, _, rfl, own_lower G1.out.size H2.out.1, g_trans G1.out H2.out.2.1⟩
theorem rLen_any (f : Nat) {v : Int} (hv : isW v) (w : World) : Calls Try.prog 14 #[.agg #[.int .u8 (f : Int), .int .i32 v]] w fun e w' => e = .returned (.int .i64 (ln f v : Nat)) ∧ w.grownBy w' none := by
  have C := Lib.hid (fun w => rPut_any f hv w)
  unfold Gives at C
  rw [pt_len] at C
  clear hv
  generalize pt f v = zs at *
  generalize pe f = E at *
  generalize ln f v = L at *
  go_enter Try.func14, Try.ntmps14
  go_wp2_with (go_at_call 12; (with_reducible refine (C.out _).mono ?_); rintro e w1 ⟨A1, c1, rfl, o1, g1⟩; have G1 := Lib.hid (g_trans (World.grownBy_alloc w _ none) g1); clear o1 g1)
  go_ret
  exact ⟨rfl, G1.out⟩
end Go.Proofs.Ytiblicpaeogihaa
