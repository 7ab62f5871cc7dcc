/- The examples of the document: head returns true. -/
import Derived.Test.YtjdinppblejcdaaDoesr
namespace Go.Proofs.Ytjdinppblejcdaa
open Go Go.RowKit

def hx0 : List Nat := List.replicate 1024 0
def hx1 : List Nat := wr hx0 (wx (-2147483642)) (four 100)
def hx2 : List Nat := wr hx1 (ix (-2147483643)) [2]
def hx3 : List Nat := wr hx2 (ix (-2147483647)) (rd hx2 (ix (-2147483644)) (cnt 2))
theorem isW_lit {a : Int} (h : (decide (-2147483648 ≤ a) && decide (a ≤ 2147483647)) = true) : isW a := by
  simp at h
  exact h
theorem hd_new (w : World) : Calls Try.prog 10 #[.int .i64 1024] w fun e w' => ∃ p, e = .returned (.tuple #[.pointer (some ⟨p, 0, none⟩), .int .i64 0]) ∧ Made w hx0 p w' :=
  New_ok (n := 1024) (by decide) w
section
variable {w : World} {p g : Nat}
theorem hd_word (M : MemAt w p g hx0) : Calls Try.prog 29 #[.pointer (some ⟨p, 0, none⟩), .int .i32 (-2147483642), .int .i32 100] w (Stored w p g 0 hx1) := by
  have h := SetWord_any (v := 100) M (isW_lit (a := -2147483642) (by decide))
  rwa [show er hx0.length (wx (-2147483642)) 4 = 0 by decide +kernel] at h
theorem hd_byte (M : MemAt w p g hx1) : Calls Try.prog 36 #[.pointer (some ⟨p, 0, none⟩), .int .i32 (-2147483644)] w fun e w' => e = .returned (.tuple #[.int .u8 100, .int .i64 0]) ∧ w = w' := by
  have h := Byte_any M (isW_lit (a := -2147483644) (by decide))
  rwa [show er hx1.length (ix (-2147483644)) 1 = 0 by decide +kernel, show bv hx1 (ix (-2147483644)) = 100 by decide +kernel] at h
theorem hd_store (M : MemAt w p g hx1) : Calls Try.prog 37 #[.pointer (some ⟨p, 0, none⟩), .int .i32 (-2147483643), .int .u8 2] w (Stored w p g 0 hx2) := by
  have h := SetByte_any M (isW_lit (a := -2147483643) (by decide)) (v := 2) (by decide)
  rwa [show er hx1.length (ix (-2147483643)) 1 = 0 by decide +kernel] at h
theorem hd_load (M : MemAt w p g hx2) : Calls Try.prog 19 #[.pointer (some ⟨p, 0, none⟩), .int .i32 (-2147483641)] w fun e w' => e = .returned (.tuple #[.int .i32 612, .int .i64 0]) ∧ w.grownBy w' none := by
  have h := Word_any M (isW_lit (a := -2147483641) (by decide))
  rwa [show er hx2.length (wx (-2147483641)) 4 = 0 by decide +kernel, show wv hx2 (wx (-2147483641)) = 612 by decide +kernel] at h
theorem hd_move (M : MemAt w p g hx2) : Calls Try.prog 30 #[.pointer (some ⟨p, 0, none⟩), .int .i32 (-2147483647), .int .i32 (-2147483644), .int .i32 2] w (Stored w p g 0 hx3) := by
  have h := Move_any (v := 2) M (isW_lit (a := -2147483647) (by decide)) (isW_lit (a := -2147483644) (by decide))
  rwa [show mve hx2.length (ix (-2147483647)) (ix (-2147483644)) (cnt 2) = 0 by decide +kernel] at h
theorem hd_read (M : MemAt w p g hx3) : Calls Try.prog 31 #[.pointer (some ⟨p, 0, none⟩), .int .i32 (-2147483648), .int .i64 4] w fun e w' => ∃ A c, e = .returned (.tuple #[.slice A 4 c, .int .i64 0]) ∧ w.grownBy w' none ∧
    (convert 30 9 (.slice A 4 c)).run Try.prog w' = .ok (.string ⟨#[0, 100, 2, 0]⟩) w' := by
  have h := Read_any M (isW_lit (a := -2147483648) (by decide)) (n := 4) (by decide)
  unfold Reads at h
  rw [show rde hx3.length (ix (-2147483648)) 4 = 0 by decide +kernel, show rd hx3 (ix (-2147483648)) (4 : Int).toNat = [0, 100, 2, 0] by decide +kernel] at h
  refine h.mono ?_
  rintro e w' ⟨A, c, rfl, o, g⟩
  exact ⟨A, c, rfl, g, str_any (OwnB.rs o (by intro x hx; simp at hx; omega)).1 4 rfl⟩
theorem hd_edge (M : MemAt w p g hx3) : Calls Try.prog 36 #[.pointer (some ⟨p, 0, none⟩), .int .i32 (-2147482624)] w fun e w' => e = .returned (.tuple #[.int .u8 0, .int .i64 4]) ∧ w = w' := by
  have h := Byte_any M (isW_lit (a := -2147482624) (by decide))
  rwa [show er hx3.length (ix (-2147482624)) 1 = 4 by decide +kernel, show bv hx3 (ix (-2147482624)) = 0 by decide +kernel] at h
theorem hd_size (M : MemAt w p g hx3) : Calls Try.prog 17 #[.pointer (some ⟨p, 0, none⟩)] w fun e w' => e = .returned (.int .i64 1024) ∧ w = w' := by
  have h := Size_any M
  rwa [show (hx3.length : Int) = 1024 by decide +kernel] at h
end
theorem hd_wsub (w : World) : Calls Try.prog 26 #[.int .i32 8, .int .i32 (-1)] w fun e w' => e = .returned (.int .i32 4) ∧ w = w' := at_ (Wsub_any 8 (-1) w) (ret_i (by decide +kernel))
theorem hd_wcnt (w : World) : Calls Try.prog 22 #[.int .i32 (-3)] w fun e w' => e = .returned (.tuple #[.int .i32 (-1), .int .i32 1]) ∧ w = w' := Wcnt_any (-3) w
set_option maxRecDepth 100000 in
set_option maxHeartbeats 4000000 in
theorem head_any (w : World) : Calls Try.prog 13 #[] w fun e w' => e = .returned (.bool true) ∧ w.grownBy w' none := by
  go_enter Try.func13, Try.ntmps13
  go_wp2_with (first
    | (go_at_call 10; (with_reducible refine (hd_new _).mono ?_); rintro e w1 ⟨p, rfl, g, hp, hg, g1, M1⟩; have H1 := Lib.hid (And.intro hg (And.intro g1 M1)); clear hg g1 M1 hp)
    | (go_at_call 29; (with_reducible refine (hd_word H1.out.2.2).mono ?_); rintro e w2 ⟨rfl, g2, M2⟩; have H2 := Lib.hid (And.intro (g_new H1.out.2.1 g2 H1.out.1) M2); clear g2 M2)
    | (go_at_call 36; (with_reducible refine (hd_byte H2.out.2).mono ?_); rintro e w2' ⟨rfl, rfl⟩)
    | (go_at_call 37; (with_reducible refine (hd_store H2.out.2).mono ?_); rintro e w3 ⟨rfl, g3, M3⟩; have H3 := Lib.hid (And.intro (g_new H2.out.1 g3 H1.out.1) M3); clear g3 M3)
    | (go_at_call 19; (with_reducible refine (hd_load H3.out.2).mono ?_); rintro e w4 ⟨rfl, g4⟩; have H4 := Lib.hid (And.intro (g_trans H3.out.1 g4) (H3.out.2.kept0 g4)); clear g4)
    | (go_at_call 30; (with_reducible refine (hd_move H4.out.2).mono ?_); rintro e w5 ⟨rfl, g5, M5⟩; have H5 := Lib.hid (And.intro (g_new H4.out.1 g5 H1.out.1) M5); clear g5 M5)
    | (go_at_call 31; (with_reducible refine (hd_read H5.out.2).mono ?_); rintro e w6 ⟨A6, c6, rfl, g6, k6⟩; have H6 := Lib.hid (And.intro (g_trans H5.out.1 g6) (H5.out.2.kept0 g6)); clear g6)
    | (go_at_call 36; (with_reducible refine (hd_edge H6.out.2).mono ?_); rintro e w7 ⟨rfl, rfl⟩)
    | (go_at_call 22; (with_reducible refine (hd_wcnt _).mono ?_); rintro e w8 ⟨rfl, rfl⟩)
    | (go_at_call 26; (with_reducible refine (hd_wsub _).mono ?_); rintro e w9 ⟨rfl, rfl⟩)
    | (go_at_call 17; (with_reducible refine (hd_size H6.out.2).mono ?_); rintro e w10 ⟨rfl, rfl⟩))
  go_ret
  exact ⟨rfl, H6.out.1⟩
end Go.Proofs.Ytjdinppblejcdaa
