/- LayoutKnown: its walk. -/
import Derived.Test.YtkhmpmjonkmbeaaDoorLwc
import Derived.Test.YtkhmpmjonkmbeaaDoorKnp
set_option linter.unusedVariables false
set_option linter.unusedSimpArgs false
namespace Go.Proofs.YtkhmpmjonkmbeaaDoor
open Go Go.RowKit L7

theorem box_new (W : World) (o : Obj) : Below W.heap.size W (W.alloc o) := bal (b0 W) o
set_option maxRecDepth 100000 in
set_option maxHeartbeats 16000000 in
theorem walkLayoutKnown (w : World) (hm : MaxIs w) :
    Calls Tryd.prog 9 #[] w fun e w' => e = .returned (.bool true) ∧ Below w.heap.size w w' := by
  have HB := Lib.hid (And.intro (b0 w) hm)
  have CW := Lib.hid (fun (W : World) (h : MaxIs W) => works_any W h)
  obtain ⟨S7, hS7⟩ : ∃ S, strOf (List.replicate 65537 32) = S := ⟨_, rfl⟩
  obtain ⟨L, hL⟩ : ∃ S, strOf a256 = S := ⟨_, rfl⟩
  obtain ⟨L1, hL1⟩ : ∃ S, strOf ([83, 75, 73, 80, 10] ++ a256) = S := ⟨_, rfl⟩
  obtain ⟨L2, hL2⟩ : ∃ S, strOf kn8 = S := ⟨_, rfl⟩
  obtain ⟨L3, hL3⟩ : ∃ S, strOf kn9 = S := ⟨_, rfl⟩
  obtain ⟨S10, hS10⟩ : ∃ S, strOf kn10 = S := ⟨_, rfl⟩
  obtain ⟨M1, hM1⟩ : ∃ S, strOf (a256 ++ [32, 32, 45, 45, 32]) = S := ⟨_, rfl⟩
  obtain ⟨M2, hM2⟩ : ∃ S, strOf (a256 ++ [32, 32, 45, 45, 32] ++ a256) = S := ⟨_, rfl⟩
  obtain ⟨M3, hM3⟩ : ∃ S, strOf kn11 = S := ⟨_, rfl⟩
  obtain ⟨N1, hN1⟩ : ∃ S, strOf (a256 ++ [97]) = S := ⟨_, rfl⟩
  obtain ⟨D, hD⟩ : ∃ S, strOf (deepT 33) = S := ⟨_, rfl⟩
  obtain ⟨Z66, hZ⟩ : ∃ S, strOf (List.replicate 66 32) = S := ⟨_, rfl⟩
  obtain ⟨D2, hD2⟩ : ∃ S, strOf (deepT 33 ++ List.replicate 66 32) = S := ⟨_, rfl⟩
  obtain ⟨D3, hD3⟩ : ∃ S, strOf kn13 = S := ⟨_, rfl⟩
  have k1 : Op.stringOp .add ⟨#[83, 75, 73, 80, 10]⟩ L = pure (.string L1) := by rw [← hL, ← hL1]; exact cat_str [83, 75, 73, 80, 10] a256 (by decide)
  have k2 : Op.stringOp .add L1 ⟨#[97]⟩ = pure (.string L2) := by rw [← hL1, ← hL2]; exact cat_str ([83, 75, 73, 80, 10] ++ a256) [97] (by decide)
  have k3 : Op.stringOp .add L ⟨#[97, 32, 43, 10]⟩ = pure (.string L3) := by rw [← hL, ← hL3]; exact cat_str a256 [97, 32, 43, 10] (by decide)
  have k4 : Op.stringOp .add L ⟨#[32, 32, 45, 45, 32]⟩ = pure (.string M1) := by rw [← hL, ← hM1]; exact cat_str a256 [32, 32, 45, 45, 32] (by decide)
  have k5 : Op.stringOp .add M1 L = pure (.string M2) := by rw [← hL, ← hM1, ← hM2]; exact cat_str (a256 ++ [32, 32, 45, 45, 32]) a256 (by decide)
  have k6 : Op.stringOp .add M2 ⟨#[10, 32, 32, 32, 45, 45]⟩ = pure (.string M3) := by rw [← hM2, ← hM3]; exact cat_str (a256 ++ [32, 32, 45, 45, 32] ++ a256) [10, 32, 32, 32, 45, 45] (by decide)
  have k7 : Op.stringOp .add L ⟨#[97]⟩ = pure (.string N1) := by rw [← hL, ← hN1]; exact cat_str a256 [97] (by decide)
  have k8 : Op.stringOp .add D Z66 = pure (.string D2) := by rw [← hD, ← hZ, ← hD2]; exact cat_str (deepT 33) (List.replicate 66 32) (by decide +kernel)
  have k9 : Op.stringOp .add D2 ⟨#[83, 75, 73, 80]⟩ = pure (.string D3) := by rw [← hD2, ← hD3]; exact cat_str (deepT 33 ++ List.replicate 66 32) [83, 75, 73, 80] (by decide +kernel)
  have k0 : (L.toList == L.toList) = true := by simp
  have F1 := Lib.hid (fun (W : World) (h : MaxIs W) => show Calls Tryd.prog 27 #[.string ⟨#[83, 69, 81, 10, 32, 32, 32, 32, 120, 32, 58, 61, 32, 49]⟩, .int .i64 2, .int .i64 70] W (fun e w' => e = .returned (.bool true) ∧ Below W.heap.size W w') from fails_any kn1 (by decide +kernel) 2 70 rows_kn1 W h)
  have F2 := Lib.hid (fun (W : World) (h : MaxIs W) => show Calls Tryd.prog 27 #[.string ⟨#[32, 32, 83, 75, 73, 80]⟩, .int .i64 1, .int .i64 70] W (fun e w' => e = .returned (.bool true) ∧ Below W.heap.size W w') from fails_any kn2 (by decide +kernel) 1 70 rows_kn2 W h)
  have F3 := Lib.hid (fun (W : World) (h : MaxIs W) => show Calls Tryd.prog 27 #[.string ⟨#[120, 32, 58, 61, 32, 49, 32, 43, 10, 45, 45, 32, 101, 110, 100]⟩, .int .i64 1, .int .i64 5] W (fun e w' => e = .returned (.bool true) ∧ Below W.heap.size W w') from fails_any kn3 (by decide +kernel) 1 5 rows_kn3 W h)
  have F4 := Lib.hid (fun (W : World) (h : MaxIs W) => show Calls Tryd.prog 27 #[.string ⟨#[83, 69, 81, 10, 32, 32, 120, 32, 58, 61, 10, 32, 49]⟩, .int .i64 3, .int .i64 70] W (fun e w' => e = .returned (.bool true) ∧ Below W.heap.size W w') from fails_any kn4 (by decide +kernel) 3 70 rows_kn4 W h)
  have F5 := Lib.hid (fun (W : World) (h : MaxIs W) => show Calls Tryd.prog 27 #[.string ⟨#[83, 75, 73, 80, 10, 10, 9, 83, 75, 73, 80]⟩, .int .i64 3, .int .i64 5] W (fun e w' => e = .returned (.bool true) ∧ Below W.heap.size W w') from fails_any kn5 (by decide +kernel) 3 5 rows_kn5 W h)
  have F6 := Lib.hid (fun (W : World) (h : MaxIs W) => show Calls Tryd.prog 27 #[.string ⟨#[32, 83, 75, 73, 80, 10, 45, 45, 127]⟩, .int .i64 2, .int .i64 5] W (fun e w' => e = .returned (.bool true) ∧ Below W.heap.size W w') from fails_any kn6 (by decide +kernel) 2 5 rows_kn6 W h)
  have F7 := Lib.hid (fun (W : World) (h : MaxIs W) => show Calls Tryd.prog 27 #[.string S7, .int .i64 0, .int .i64 3] W (fun e w' => e = .returned (.bool true) ∧ Below W.heap.size W w') from (by rw [← hS7]; exact fails_any (List.replicate 65537 32) (by rw [List.length_replicate]; unfold maxLen; decide) 0 3 rows_kn7 W h))
  have F8 := Lib.hid (fun (W : World) (h : MaxIs W) => show Calls Tryd.prog 27 #[.string L2, .int .i64 2, .int .i64 3] W (fun e w' => e = .returned (.bool true) ∧ Below W.heap.size W w') from (by rw [← hL2]; exact fails_any kn8 (by decide +kernel) 2 3 rows_kn8 W h))
  have F9 := Lib.hid (fun (W : World) (h : MaxIs W) => show Calls Tryd.prog 27 #[.string L3, .int .i64 1, .int .i64 5] W (fun e w' => e = .returned (.bool true) ∧ Below W.heap.size W w') from (by rw [← hL3]; exact fails_any kn9 (by decide +kernel) 1 5 rows_kn9 W h))
  have F10 := Lib.hid (fun (W : World) (h : MaxIs W) => show Calls Tryd.prog 27 #[.string S10, .int .i64 2049, .int .i64 3] W (fun e w' => e = .returned (.bool true) ∧ Below W.heap.size W w') from (by rw [← hS10]; exact fails_any kn10 (by rw [kn10_len]; unfold maxLen; decide) 2049 3 rows_kn10 W h))
  have F13 := Lib.hid (fun (W : World) (h : MaxIs W) => show Calls Tryd.prog 27 #[.string D3, .int .i64 34, .int .i64 3] W (fun e w' => e = .returned (.bool true) ∧ Below W.heap.size W w') from (by rw [← hD3]; exact fails_any kn13 (by decide +kernel) 34 3 rows_kn13 W h))
  have C7 := Lib.hid (fun (W : World) => show Calls Tryd.prog 22 #[.string ⟨#[32]⟩, .int .i64 65537] W (fun e w' => e = .returned (.string S7) ∧ Below W.heap.size W w') from (by rw [← hS7]; exact cRepeatSp 65537 (by decide) W))
  have C8 := Lib.hid (fun (W : World) => show Calls Tryd.prog 22 #[.string ⟨#[97]⟩, .int .i64 256] W (fun e w' => e = .returned (.string L) ∧ Below W.heap.size W w') from (by rw [← hL, show a256 = Lib.repeatL [97] 256 by decide +kernel]; exact cRepeat [97] 256 (by decide) (by decide) W))
  have C10 := Lib.hid (fun (W : World) => show Calls Tryd.prog 22 #[.string ⟨#[97, 10]⟩, .int .i64 2049] W (fun e w' => e = .returned (.string S10) ∧ Below W.heap.size W w') from (by rw [← hS10]; exact cRepeat [97, 10] 2049 (by decide) (by decide) W))
  have R11 := Lib.hid (fun (W : World) (h : MaxIs W) => show Calls Tryd.prog 10 #[.string M3] W (fun en w' => ∃ A c, en = .returned (.tuple #[.slice A 1 c, .int .i64 0, .int .i64 0]) ∧ (∃ ad, A = some ad ∧ w'.cell? ⟨ad.block, ad.off + 2, none⟩ = some (.string L)) ∧ Below W.heap.size W w') from (by
    rw [← hM3, ← hL]
    refine (rows_at (by decide +kernel) W h rows_kn11).mono ?_
    rintro e w' ⟨A, c, h1, h2, h3⟩
    obtain ⟨ad, rfl, g0, g1, g2⟩ := (h2.rr (OKL.one (by unfold OKx; decide +kernel))).rd 0 (by decide)
    rw [Nat.zero_mul] at g2
    exact ⟨some ad, c, h1, ⟨ad, rfl, g2⟩, h3⟩))
  have R12 := Lib.hid (fun (W : World) (h : MaxIs W) => show Calls Tryd.prog 10 #[.string D] W (fun en w' => ∃ A c, en = .returned (.tuple #[.slice A 33 c, .int .i64 0, .int .i64 0]) ∧ Below W.heap.size W w') from (by
    rw [← hD]
    refine (rows_at (by decide +kernel) W h rows_kn12).mono ?_
    rintro e w' ⟨A, c, h1, h2, h3⟩
    rw [deepR_len] at h1
    exact ⟨A, c, h1, h3⟩))
  have R14 := Lib.hid (fun (W : World) (h : MaxIs W) => show Calls Tryd.prog 10 #[.string ⟨#[]⟩] W (fun en w' => ∃ A c, en = .returned (.tuple #[.slice A 0 c, .int .i64 0, .int .i64 0]) ∧ Below W.heap.size W w') from ((rows_at (s := []) (by decide +kernel) W h rows_kn14).mono (by rintro e w' ⟨A, c, h1, h2, h3⟩; exact ⟨A, c, h1, h3⟩)))
  have C66 := Lib.hid (fun (W : World) => show Calls Tryd.prog 28 #[.int .i64 66] W (fun e w' => e = .returned (.string Z66) ∧ W = w') from (by rw [← hZ]; exact RSpaces_any 66 (by decide) W))
  have M0 := Lib.hid (fun (W : World) (h : MaxIs W) => show Calls Tryd.prog 17 #[.slice none 0 0] W (fun e w' => e = .returned (.bool true) ∧ Below W.heap.size W w') from May_any (OwnR.rr (ownR_nil W 38 0) OKL.nil) rfl h)
  have MB := Lib.hid (fun (W : World) (h : MaxIs W) (A : Option Addr) (k : Nat) (hk : k < 11) (R : RR W A 1 [bad11.getD k r0]) => show Calls Tryd.prog 17 #[.slice A 1 1] W (fun e w' => e = .returned (.bool false) ∧ Below W.heap.size W w') from (by have := May_any R rfl h; rwa [may_bad11 k hk] at this))
  have MO := Lib.hid (fun (W : World) (h : MaxIs W) => show Calls Tryd.prog 17 #[.slice (some ⟨W.heap.size, 0, none⟩) 1 1] (W.alloc (.cells #[.int .i64 65536, .int .i64 0, .string L] 38)) (fun e w' => e = .returned (.bool true) ∧ Below W.heap.size W w') from (by
    rw [← hL]
    have R : RR (W.alloc (.cells #[.int .i64 65536, .int .i64 0, .string (strOf a256)] 38)) (some ⟨W.heap.size, 0, none⟩) 1 [⟨65536, 0, a256⟩] := rr_one (x := ⟨65536, 0, a256⟩) (by unfold OKx; decide +kernel) (boxS_new W _ _)
    have := May_any R rfl (h.below (box_new W _))
    rw [may_one] at this
    exact this.mono fun e w' k => ⟨k.1, blw (box_new W _) k.2⟩))
  have MT := Lib.hid (fun (W : World) (h : MaxIs W) => show Calls Tryd.prog 17 #[.slice (some ⟨W.heap.size, 0, none⟩) 2 2] (W.alloc (.cells #[.int .i64 2, .int .i64 0, .string ⟨#[97]⟩, .int .i64 2, .int .i64 0, .string ⟨#[97]⟩] 38)) (fun e w' => e = .returned (.bool false) ∧ Below W.heap.size W w') from (by
    have R : RR (W.alloc (.cells #[.int .i64 2, .int .i64 0, .string ⟨#[97]⟩, .int .i64 2, .int .i64 0, .string ⟨#[97]⟩] 38)) (some ⟨W.heap.size, 0, none⟩) 2 [⟨2, 0, [97]⟩, ⟨2, 0, [97]⟩] := rr_new (rs := [⟨2, 0, [97]⟩, ⟨2, 0, [97]⟩]) (e := 38) (fun x hx => by
      simp only [List.mem_cons, List.not_mem_nil, or_false] at hx
      rcases hx with rfl | rfl <;> (unfold OKx; decide +kernel)) (by decide +kernel) (boxS_new W _ _)
    have := May_any R rfl (h.below (box_new W _))
    rw [may_two] at this
    exact this.mono fun e w' k => ⟨k.1, blw (box_new W _) k.2⟩))
  have HR := Lib.hid (fun (W : World) => show RR (W.alloc (.cells #[.int .i64 0, .int .i64 0, .string ⟨#[97]⟩, .int .i64 1, .int .i64 1, .string ⟨#[97]⟩, .int .i64 1, .int .i64 0, .string ⟨#[]⟩, .int .i64 1, .int .i64 0, .string ⟨#[97, 32]⟩, .int .i64 1, .int .i64 0, .string ⟨#[32, 97]⟩, .int .i64 1, .int .i64 0, .string ⟨#[97, 45, 45, 98]⟩, .int .i64 1, .int .i64 0, .string ⟨#[97, 44]⟩, .int .i64 1, .int .i64 0, .string ⟨#[97, 9, 98]⟩, .int .i64 1, .int .i64 0, .string N1, .int .i64 65537, .int .i64 0, .string ⟨#[97]⟩, .int .i64 1, .int .i64 (-1), .string ⟨#[97]⟩] 38)) (some ⟨W.heap.size, 0, none⟩) 11 bad11 from (by
    rw [← hN1]
    exact rr_new (rs := bad11) (e := 38) okl_bad11 (by decide +kernel) (boxS_new W _ _)))
  have HD := Lib.hid hD
  clear hm hS7 hL hL1 hL2 hL3 hS10 hM1 hM2 hM3 hN1 hD hZ hD2 hD3
  go_enter Tryd.func9, Tryd.ntmps9
  go_wp2_with (first
    | (go_at_call 27; (with_reducible refine (F1.out _ HB.out.2).mono ?_); clear F1; rintro e v1 ⟨rfl, b⟩; replace HB := Lib.hid (And.intro (blw HB.out.1 b) (HB.out.2.below b)); clear b)
    | (go_at_call 27; (with_reducible refine (F2.out _ HB.out.2).mono ?_); clear F2; rintro e v2 ⟨rfl, b⟩; replace HB := Lib.hid (And.intro (blw HB.out.1 b) (HB.out.2.below b)); clear b)
    | (go_at_call 27; (with_reducible refine (F3.out _ HB.out.2).mono ?_); clear F3; rintro e v3 ⟨rfl, b⟩; replace HB := Lib.hid (And.intro (blw HB.out.1 b) (HB.out.2.below b)); clear b)
    | (go_at_call 27; (with_reducible refine (F4.out _ HB.out.2).mono ?_); clear F4; rintro e v4 ⟨rfl, b⟩; replace HB := Lib.hid (And.intro (blw HB.out.1 b) (HB.out.2.below b)); clear b)
    | (go_at_call 27; (with_reducible refine (F5.out _ HB.out.2).mono ?_); clear F5; rintro e v5 ⟨rfl, b⟩; replace HB := Lib.hid (And.intro (blw HB.out.1 b) (HB.out.2.below b)); clear b)
    | (go_at_call 27; (with_reducible refine (F6.out _ HB.out.2).mono ?_); clear F6; rintro e v6 ⟨rfl, b⟩; replace HB := Lib.hid (And.intro (blw HB.out.1 b) (HB.out.2.below b)); clear b)
    | (go_at_call 22; (with_reducible refine (C7.out _).mono ?_); clear C7; rintro e va ⟨rfl, b⟩; replace HB := Lib.hid (And.intro (blw HB.out.1 b) (HB.out.2.below b)); clear b)
    | (go_at_call 27; (with_reducible refine (F7.out _ HB.out.2).mono ?_); clear F7; rintro e v7 ⟨rfl, b⟩; replace HB := Lib.hid (And.intro (blw HB.out.1 b) (HB.out.2.below b)); clear b)
    | (go_at_call 22; (with_reducible refine (C8.out _).mono ?_); clear C8; rintro e vb ⟨rfl, b⟩; replace HB := Lib.hid (And.intro (blw HB.out.1 b) (HB.out.2.below b)); clear b)
    | (go_at_call 27; (with_reducible refine (F8.out _ HB.out.2).mono ?_); clear F8; rintro e v8 ⟨rfl, b⟩; replace HB := Lib.hid (And.intro (blw HB.out.1 b) (HB.out.2.below b)); clear b)
    | (go_at_call 27; (with_reducible refine (F9.out _ HB.out.2).mono ?_); clear F9; rintro e v9 ⟨rfl, b⟩; replace HB := Lib.hid (And.intro (blw HB.out.1 b) (HB.out.2.below b)); clear b)
    | (go_at_call 22; (with_reducible refine (C10.out _).mono ?_); clear C10; rintro e vc ⟨rfl, b⟩; replace HB := Lib.hid (And.intro (blw HB.out.1 b) (HB.out.2.below b)); clear b)
    | (go_at_call 27; (with_reducible refine (F10.out _ HB.out.2).mono ?_); clear F10; rintro e v10 ⟨rfl, b⟩; replace HB := Lib.hid (And.intro (blw HB.out.1 b) (HB.out.2.below b)); clear b)
    | (go_at_call 10; (with_reducible refine (R11.out _ HB.out.2).mono ?_); clear R11; rintro e vd ⟨A1, c1, rfl, ⟨ad, rfl, g0⟩, b⟩; replace HB := Lib.hid (And.intro (blw HB.out.1 b) (HB.out.2.below b)); clear b))
  have HG := Lib.hid g0
  go_loopw [8, 9] (fun s i wr => ∃ k : Nat, k ≤ 33 ∧ i = .int .i64 k ∧ s = .string (strOf (deepT k)) ∧ vd = wr) (fun _ i _ => 33 - (intOf i).toNat)
  case atStart => exact ⟨0, by omega, rfl, rfl, rfl⟩
  case round =>
    obtain ⟨k, hk, rfl, rfl, rfl⟩ := hrel
    have hk0 : (0 : Int) ≤ (k : Int) := by omega
    by_cases hk1 : (k : Int) ≤ 32
    · have hlen := deepT_len k (by omega)
      have C := Lib.hid (RSpaces_any (2 * k) (by omega) vd)
      have e2 : ((2 * k : Nat) : Int) = 2 * (k : Int) := by omega
      rw [e2] at C
      have t1 := cat_str (deepT k) (List.replicate (2 * k) 32) (by rw [List.length_replicate]; omega)
      have t2 : Op.stringOp .add (strOf (deepT k ++ List.replicate (2 * k) 32)) ⟨#[83, 69, 81, 10]⟩ = pure (.string (strOf (deepT (k + 1)))) := cat_str (deepT k ++ List.replicate (2 * k) 32) [83, 69, 81, 10] (by simp only [List.length_append, List.length_replicate, List.length_cons, List.length_nil]; omega)
      have HN := Lib.hid (Eq.refl (strOf (deepT (k + 1))))
      clear e2 hlen
      generalize strOf (deepT k ++ List.replicate (2 * k) 32) = T1 at *
      generalize strOf (List.replicate (2 * k) 32) = T2 at *
      obtain ⟨T3, hT3⟩ : ∃ T3, strOf (deepT (k + 1)) = T3 := ⟨_, rfl⟩
      rw [hT3] at t2
      have HT := Lib.hid hT3
      clear hT3 HN
      generalize strOf (deepT k) = T0 at *
      go_wp2_with (go_at_call 28; (with_reducible refine (C.out).mono ?_); rintro e ve ⟨rfl, rfl⟩)
      go_roundw
      case rel => exact ⟨k + 1, by omega, by go_num, by rw [HT.out], trivial⟩
      case measure => simp [intOf]; omega
    · obtain rfl : k = 33 := by omega
      rw [HD.out]
      go_wp2_with (first
        | (go_at_call 10; (with_reducible refine (R12.out _ HB.out.2).mono ?_); clear R12; rintro e vf ⟨A2, c2, rfl, b⟩; replace HB := Lib.hid (And.intro (blw HB.out.1 b) (HB.out.2.below b)); clear b)
        | (go_at_call 28; (with_reducible refine (C66.out _).mono ?_); clear C66; rintro e vg ⟨rfl, rfl⟩)
        | (go_at_call 27; (with_reducible refine (F13.out _ HB.out.2).mono ?_); clear F13; rintro e vh ⟨rfl, b⟩; replace HB := Lib.hid (And.intro (blw HB.out.1 b) (HB.out.2.below b)); clear b)
        | (go_at_call 10; (with_reducible refine (R14.out _ HB.out.2).mono ?_); clear R14; rintro e vi ⟨A3, c3, rfl, b⟩; replace HB := Lib.hid (And.intro (blw HB.out.1 b) (HB.out.2.below b)); clear b)
        | (go_at_call 17; (with_reducible refine (M0.out _ HB.out.2).mono ?_); clear M0; rintro e vj ⟨rfl, b⟩; replace HB := Lib.hid (And.intro (blw HB.out.1 b) (HB.out.2.below b)); clear b))
      obtain ⟨V, hV⟩ : ∃ V, vj.alloc (.cells #[.int .i64 0, .int .i64 0, .string ⟨#[97]⟩, .int .i64 1, .int .i64 1, .string ⟨#[97]⟩, .int .i64 1, .int .i64 0, .string ⟨#[]⟩, .int .i64 1, .int .i64 0, .string ⟨#[97, 32]⟩, .int .i64 1, .int .i64 0, .string ⟨#[32, 97]⟩, .int .i64 1, .int .i64 0, .string ⟨#[97, 45, 45, 98]⟩, .int .i64 1, .int .i64 0, .string ⟨#[97, 44]⟩, .int .i64 1, .int .i64 0, .string ⟨#[97, 9, 98]⟩, .int .i64 1, .int .i64 0, .string N1, .int .i64 65537, .int .i64 0, .string ⟨#[97]⟩, .int .i64 1, .int .i64 (-1), .string ⟨#[97]⟩] 38) = V := ⟨_, rfl⟩
      have RB := HR.out vj
      have HV := box_new vj (.cells #[.int .i64 0, .int .i64 0, .string ⟨#[97]⟩, .int .i64 1, .int .i64 1, .string ⟨#[97]⟩, .int .i64 1, .int .i64 0, .string ⟨#[]⟩, .int .i64 1, .int .i64 0, .string ⟨#[97, 32]⟩, .int .i64 1, .int .i64 0, .string ⟨#[32, 97]⟩, .int .i64 1, .int .i64 0, .string ⟨#[97, 45, 45, 98]⟩, .int .i64 1, .int .i64 0, .string ⟨#[97, 44]⟩, .int .i64 1, .int .i64 0, .string ⟨#[97, 9, 98]⟩, .int .i64 1, .int .i64 0, .string N1, .int .i64 65537, .int .i64 0, .string ⟨#[97]⟩, .int .i64 1, .int .i64 (-1), .string ⟨#[97]⟩] 38)
      rw [hV] at RB HV
      rw [hV]
      have RV := Lib.hid (And.intro (blw HB.out.1 HV) (And.intro (HB.out.2.below HV) RB))
      clear hV RB HV HR HB
      go_loopw [11, 137] (fun b i wr => ∃ k : Nat, k ≤ 11 ∧ i = .int .i64 k ∧ b = .bool true ∧ Hid (Below V.heap.size V wr)) (fun _ i _ => 11 - (intOf i).toNat)
      case atStart => exact ⟨0, by omega, rfl, rfl, Lib.hid (b0 V)⟩
      case round =>
        obtain ⟨k, hk, rfl, rfl, H⟩ := hrel
        have hk0 : (0 : Int) ≤ (k : Int) := by omega
        by_cases hk1 : (k : Int) < 11
        · obtain ⟨ad9, e9, q0, q1, q2⟩ := (RV.out.2.2.keep H.out).rd k (by have : bad11.length = 11 := rfl; omega)
          cases e9
          simp only [add_plain, Nat.zero_add] at q0 q1 q2
          have hko := okl_bad11.get k
          have MBk := Lib.hid (fun (W : World) (h : MaxIs W) (A : Option Addr) (R : RR W A 1 [bad11.getD k r0]) => MB.out W h A k (by omega) R)
          generalize bad11.getD k r0 = x at *
          obtain ⟨no, dp, tx⟩ := x
          have r1 := rr_one (w := (wr.alloc (.cells #[.int .i64 no, .int .i64 dp, .string (strOf tx)] 38)).alloc (.cells #[.int .i64 no, .int .i64 dp, .string (strOf tx)] 38)) (e := 38) (q := (wr.alloc (.cells #[.int .i64 no, .int .i64 dp, .string (strOf tx)] 38)).heap.size) (x := ⟨no, dp, tx⟩) hko (boxS_new _ _ _)
          rw [World.size_alloc] at r1
          have R1 := Lib.hid (And.intro r1 (bal (bal H.out (.cells #[.int .i64 no, .int .i64 dp, .string (strOf tx)] 38)) (.cells #[.int .i64 no, .int .i64 dp, .string (strOf tx)] 38)))
          dsimp only at *
          clear r1 hko H
          go_wp2_with (go_at_call 17; (with_reducible refine (MBk.out _ (RV.out.2.1.below R1.out.2) _ R1.out.1).mono ?_); rintro e vk ⟨rfl, b⟩; have HK := Lib.hid (blw R1.out.2 b); clear b)
          go_roundw
          case rel => exact ⟨k + 1, by omega, by go_num, rfl, HK⟩
          case measure => simp [intOf]; omega
        · obtain rfl : k = 11 := by omega
          have HB := Lib.hid (And.intro (blw RV.out.1 H.out) (RV.out.2.1.below H.out))
          clear H
          go_wp2_with (first
            | (go_at_call 17; (with_reducible refine (MO.out _ HB.out.2).mono ?_); clear MO; rintro e vl ⟨rfl, b⟩; replace HB := Lib.hid (And.intro (blw HB.out.1 b) (HB.out.2.below b)); clear b)
            | (go_at_call 17; (with_reducible refine (MT.out _ HB.out.2).mono ?_); clear MT; rintro e vm ⟨rfl, b⟩; replace HB := Lib.hid (And.intro (blw HB.out.1 b) (HB.out.2.below b)); clear b)
            | (go_at_call 13; (with_reducible refine (CW.out _ HB.out.2).mono ?_); rintro e vn ⟨rfl, b⟩; replace HB := Lib.hid (And.intro (blw HB.out.1 b) (HB.out.2.below b)); clear b))
          go_ret
          exact ⟨rfl, HB.out.1⟩
end Go.Proofs.YtkhmpmjonkmbeaaDoor
