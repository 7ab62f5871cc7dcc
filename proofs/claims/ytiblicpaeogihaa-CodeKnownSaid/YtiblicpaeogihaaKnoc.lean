/- Calls at known instructions and bytes: what they answer. -/
import Derived.Test.YtiblicpaeogihaaKnow
namespace Go.Proofs.Ytiblicpaeogihaa
open Go Go.RowKit

theorem kn_p1 (w : World) : Calls Try.prog 26 #[.int .u8 4, .int .i32 5, .string { data := #[69] }] w fun e w' => e = .returned (.bool true) ∧ w.grownBy w' none :=
  wk_puts 4 5 _ (isW_lit (by decide)) (by decide) (by decide +kernel) w
theorem kn_p2 (w : World) : Calls Try.prog 26 #[.int .u8 4, .int .i32 256, .string { data := #[33, 32, 64] }] w fun e w' => e = .returned (.bool true) ∧ w.grownBy w' none :=
  wk_puts 4 256 _ (isW_lit (by decide)) (by decide) (by decide +kernel) w
theorem kn_p3 (w : World) : Calls Try.prog 26 #[.int .u8 4, .int .i32 (-1), .string { data := #[96, 79] }] w fun e w' => e = .returned (.bool true) ∧ w.grownBy w' none :=
  wk_puts 4 (-1) _ (isW_lit (by decide)) (by decide) (by decide +kernel) w
theorem kn_p4 (w : World) : Calls Try.prog 26 #[.int .u8 4, .int .i32 (-256), .string { data := #[111, 64] }] w fun e w' => e = .returned (.bool true) ∧ w.grownBy w' none :=
  wk_puts 4 (-256) _ (isW_lit (by decide)) (by decide) (by decide +kernel) w
theorem kn_p5 (w : World) : Calls Try.prog 26 #[.int .u8 4, .int .i32 (-257), .string { data := #[33, 96, 79] }] w fun e w' => e = .returned (.bool true) ∧ w.grownBy w' none :=
  wk_puts 4 (-257) _ (isW_lit (by decide)) (by decide) (by decide +kernel) w
theorem kn_p6 (w : World) : Calls Try.prog 26 #[.int .u8 0, .int .i32 2147483647, .string { data := #[39, 47, 47, 47, 47, 47, 47, 15] }] w fun e w' => e = .returned (.bool true) ∧ w.grownBy w' none :=
  wk_puts 0 2147483647 _ (isW_lit (by decide)) (by decide) (by decide +kernel) w
theorem kn_p7 (w : World) : Calls Try.prog 26 #[.int .u8 0, .int .i32 (-2147483648), .string { data := #[39, 47, 47, 47, 47, 47, 111, 0] }] w fun e w' => e = .returned (.bool true) ∧ w.grownBy w' none :=
  wk_puts 0 (-2147483648) _ (isW_lit (by decide)) (by decide) (by decide +kernel) w
theorem kn_b2 (w : World) : Calls Try.prog 11 #[.agg #[.int .u8 2, .int .i32 0]] w fun e w' => ∃ A c, e = .returned (.tuple #[.slice A 0 c, .int .i64 2]) ∧ w.grownBy w' none := by
  have h := Put_any 2 (v := 0) (isW_lit (by decide)) w
  unfold Gives at h
  rw [show pe 2 = 2 by decide, show pt 2 0 = [] by decide +kernel] at h
  exact h.mono fun _ _ ⟨A, c, he, _, hg⟩ => ⟨A, c, he, hg⟩
theorem kn_b16 (w : World) : Calls Try.prog 11 #[.agg #[.int .u8 16, .int .i32 0]] w fun e w' => ∃ A c, e = .returned (.tuple #[.slice A 0 c, .int .i64 2]) ∧ w.grownBy w' none := by
  have h := Put_any 16 (v := 0) (isW_lit (by decide)) w
  unfold Gives at h
  rw [show pe 16 = 2 by decide, show pt 16 0 = [] by decide +kernel] at h
  exact h.mono fun _ _ ⟨A, c, he, _, hg⟩ => ⟨A, c, he, hg⟩
theorem kn_d3 (w : World) : Calls Try.prog 15 #[.agg #[.int .u8 4, .int .i32 5], .int .i64 3] w fun e w' => ∃ A c, e = .returned (.tuple #[.slice A 3 c, .int .i64 0]) ∧ RS w' A c [32, 32, 69] ∧ w.grownBy w' none := by
  have h := Pad_any 4 (v := 5) (isW_lit (by decide)) 3 w
  unfold Gives at h
  rw [show pde 4 5 3 = 0 by decide +kernel, show pd 4 5 3 = [32, 32, 69] by decide +kernel] at h
  exact h.mono fun _ _ ⟨A, c, he, ho, hg⟩ => ⟨A, c, he, (OwnB.rs ho (by intro x hx; simp at hx; omega)).1, hg⟩
theorem kn_d0 (w : World) : Calls Try.prog 15 #[.agg #[.int .u8 4, .int .i32 5], .int .i64 0] w fun e w' => ∃ A c, e = .returned (.tuple #[.slice A 0 c, .int .i64 4]) ∧ w.grownBy w' none := by
  have h := Pad_any 4 (v := 5) (isW_lit (by decide)) 0 w
  unfold Gives at h
  rw [show pde 4 5 0 = 4 by decide +kernel, show pd 4 5 0 = [] by decide +kernel] at h
  exact h.mono fun _ _ ⟨A, c, he, _, hg⟩ => ⟨A, c, he, hg⟩
theorem kn_d17 (w : World) : Calls Try.prog 15 #[.agg #[.int .u8 4, .int .i32 5], .int .i64 17] w fun e w' => ∃ A c, e = .returned (.tuple #[.slice A 0 c, .int .i64 3]) ∧ w.grownBy w' none := by
  have h := Pad_any 4 (v := 5) (isW_lit (by decide)) 17 w
  unfold Gives at h
  rw [show pde 4 5 17 = 3 by decide +kernel, show pd 4 5 17 = [] by decide +kernel] at h
  exact h.mono fun _ _ ⟨A, c, he, _, hg⟩ => ⟨A, c, he, hg⟩
theorem kn_d6 (w : World) : Calls Try.prog 15 #[.agg #[.int .u8 6, .int .i32 0], .int .i64 0] w fun e w' => ∃ A c, e = .returned (.tuple #[.slice A 0 c, .int .i64 2]) ∧ w.grownBy w' none := by
  have h := Pad_any 6 (v := 0) (isW_lit (by decide)) 0 w
  unfold Gives at h
  rw [show pde 6 0 0 = 2 by decide +kernel, show pd 6 0 0 = [] by decide +kernel] at h
  exact h.mono fun _ _ ⟨A, c, he, _, hg⟩ => ⟨A, c, he, hg⟩
theorem kn_str {w : World} {A : Option Addr} {c : Nat} (R : RS w A c [32, 32, 69]) : (convert 24 9 (.slice A 3 c)).run Try.prog w = .ok (.string { data := #[32, 32, 69] }) w := by
  have h := str_any R 3 rfl
  rwa [show str [32, 32, 69] = { data := #[32, 32, 69] } by decide +kernel] at h
theorem kn_len (w : World) : Calls Try.prog 13 #[.agg #[.int .u8 99, .int .i32 0]] w fun e w' => e = .returned (.int .i64 0) ∧ w.grownBy w' none :=
  Len_any 99 (v := 0) (isW_lit (by decide)) w
theorem kn_g1 (w : World) : Calls Try.prog 18 #[.slice (some ⟨w.heap.size, 0, none⟩) 1 1] (w.alloc (.cells #[.int .u8 97] 5)) fun e w' => e = .returned (.tuple #[.agg #[.int .u8 0, .int .i32 0], .int .i64 0, .int .i64 40]) ∧ w.grownBy w' none := by
  have h := Get_is (m := 1) (rs_of_row (w := w.alloc (.cells #[.int .u8 97] 5)) (g := w.heap.size) (xs := [97]) (heap_alloc_new w _) (by simp [maxLen]) (by intro x hx; simp at hx; omega)) rfl (show get [97] = ⟨0, 0, 0, 40⟩ by kernel_rfl)
  exact h.mono fun _ _ ⟨he, hg⟩ => ⟨he, g_trans (World.grownBy_alloc w _ none) hg⟩
theorem make16_32 (w : World) : Calls Try.prog 27 #[.int .u8 32] w fun e w' => ∃ A c, e = .returned (.slice A 16 c) ∧ w'.ownsRow w.heap.size 5 1 (.slice A 16 c) 16 (bs (List.replicate 16 32)) ∧ w.grownBy w' none := make16_any 32 w
theorem kn_g16 {w : World} {B c : Nat} {A : Option Addr} (o : w.ownsRow B 5 1 (.slice A 16 c) 16 (bs (List.replicate 16 32))) : Calls Try.prog 18 #[.slice A 16 c] w fun e w' => e = .returned (.tuple #[.agg #[.int .u8 0, .int .i32 0], .int .i64 0, .int .i64 3]) ∧ w.grownBy w' none :=
  Get_is (m := 16) (OwnB.rs (own_of o (by simp)) (by intro x hx; rw [List.eq_of_mem_replicate hx]; decide)).1 (by simp) (show get (List.replicate 16 32) = ⟨0, 0, 0, 3⟩ by kernel_rfl)
theorem kn_by : BY (List.replicate 15 32 ++ [69]) := by
  intro x hx
  rcases List.mem_append.1 hx with hx | hx
  · rw [List.eq_of_mem_replicate hx]; decide
  · simp at hx; omega
theorem own_mono {w : World} {B B' n s : Nat} {v : Value} {t : TypeId} {xs : List Value} (h : w.ownsRow B t s v n xs) (hb : B' ≤ B) : w.ownsRow B' t s v n xs :=
  ⟨h.1, h.2.imp id (fun ⟨g, cap, cur, hv, hB, r⟩ => ⟨g, cap, cur, hv, Nat.le_trans hb hB, r⟩)⟩
theorem kn_g15 {w : World} {B c K : Nat} {A : Option Addr} (hK : K = 15) (o : w.ownsRow B 5 1 (.slice A (K + 1) c) (K + 1) (bs (List.replicate K 32 ++ [69]))) : Calls Try.prog 18 #[.slice A (K + 1) c] w fun e w' => e = .returned (.tuple #[.agg #[.int .u8 4, .int .i32 5], .int .i64 16, .int .i64 0]) ∧ w.grownBy w' none := by
  subst hK
  exact Get_is (m := 16) (OwnB.rs (own_of o (by simp)) kn_by).1 (by simp) (show get (List.replicate 15 32 ++ [69]) = ⟨4, 5, 16, 0⟩ by kernel_rfl)
theorem kn_g0 (w : World) : Calls Try.prog 18 #[.slice none 0 0] w fun e w' => e = .returned (.tuple #[.agg #[.int .u8 0, .int .i32 0], .int .i64 0, .int .i64 40]) ∧ w.grownBy w' none :=
  Get_is (m := 0) (RS.nil w) rfl (show get [] = ⟨0, 0, 0, 40⟩ by kernel_rfl)
theorem kn_a2 {w : World} {k : Nat} (hk : k = w.heap.size) : Calls Try.prog 22 #[.slice (some ⟨k, 0, none⟩) 2 2] (w.alloc (.cells #[.int .u8 69, .int .u8 245] 5)) fun e w' => ∃ A c, e = .returned (.tuple #[.slice A 2 c, .int .i64 0]) ∧ RI w' A c [ldc, (15, 5)] ∧ w.grownBy w' none := by
  subst hk
  have h := All_any (n := 2) (rs_of_row (w := w.alloc (.cells #[.int .u8 69, .int .u8 245] 5)) (g := w.heap.size) (xs := [69, 245]) (heap_alloc_new w _) (by simp [maxLen]) (by intro x hx; simp at hx; omega)) rfl
  unfold GivesI at h
  rw [kn_two.1, kn_two.2] at h
  exact h.mono fun _ _ ⟨A, c, he, ho, hg⟩ => ⟨A, c, he, ho.ri (by intro p hp; simp [ldc] at hp; rcases hp with rfl | rfl <;> exact ⟨by decide, isW_lit (by decide)⟩), g_trans (World.grownBy_alloc w _ none) hg⟩
theorem kn_a3 (w : World) : Calls Try.prog 22 #[.slice (some ⟨w.heap.size, 0, none⟩) 2 2] (w.alloc (.cells #[.int .u8 69, .int .u8 37] 5)) fun e w' => ∃ A c, e = .returned (.tuple #[.slice A 0 c, .int .i64 40]) ∧ w.grownBy w' none := by
  have h := All_any (n := 2) (rs_of_row (w := w.alloc (.cells #[.int .u8 69, .int .u8 37] 5)) (g := w.heap.size) (xs := [69, 37]) (heap_alloc_new w _) (by simp [maxLen]) (by intro x hx; simp at hx; omega)) rfl
  unfold GivesI at h
  rw [kn_short.1, kn_short.2] at h
  exact h.mono fun _ _ ⟨A, c, he, _, hg⟩ => ⟨A, c, he, g_trans (World.grownBy_alloc w _ none) hg⟩
theorem kn_a0 (w : World) : Calls Try.prog 22 #[.slice none 0 0] w fun e w' => ∃ A c, e = .returned (.tuple #[.slice A 0 c, .int .i64 0]) ∧ w.grownBy w' none := by
  have h := All_any (n := 0) (RS.nil w) rfl
  unfold GivesI at h
  rw [kn_none.1, kn_none.2] at h
  exact h.mono fun _ _ ⟨A, c, he, _, hg⟩ => ⟨A, c, he, hg⟩
theorem rs_zeros (w : World) {n : Nat} (h : n ≤ 65536) : RS (w.alloc (.cells (zc n) 5)) (some ⟨w.heap.size, 0, none⟩) n (List.replicate n 0) := by
  have := rs_of_row (zc_row w n) (by simp [maxLen]; omega) (rep_by n)
  rwa [List.length_replicate] at this
theorem kn_aM {M : Nat} (h : M = 32769) (w : World) : Calls Try.prog 22 #[.slice (some ⟨w.heap.size, 0, none⟩) M M] (w.alloc (.cells (zc M) 5)) fun e w' => ∃ A c, e = .returned (.tuple #[.slice A 0 c, .int .i64 3]) ∧ w.grownBy w' none := by
  have k := All_any (n := M) (rs_zeros w (by omega)) (List.length_replicate)
  unfold GivesI at k
  have e := ae_long (xs := List.replicate M 0) (by rw [List.length_replicate]; omega)
  rw [e, al_no (by rw [e]; decide)] at k
  exact k.mono fun _ _ ⟨A, c, he, _, hg⟩ => ⟨A, c, he, g_trans (World.grownBy_alloc w _ none) hg⟩
theorem kn_aN {N : Nat} (h : N = 32768) (w : World) : Calls Try.prog 22 #[.slice (some ⟨w.heap.size, 0, none⟩) N N] (w.alloc (.cells (zc N) 5)) fun e w' => ∃ A c, e = .returned (.tuple #[.slice A N c, .int .i64 0]) ∧ OwnI w' w.heap.size A N c (List.replicate N i0) ∧ w.grownBy w' none := by
  have k := All_any (n := N) (rs_zeros w (by omega)) (List.length_replicate)
  unfold GivesI at k
  obtain ⟨e1, e2⟩ := rep_all (n := N) (by omega)
  rw [e1, e2, List.length_replicate] at k
  exact k.mono fun _ _ ⟨A, c, he, ho, hg⟩ => ⟨A, c, he, own_mono ho (World.grownBy_alloc w _ none).size, g_trans (World.grownBy_alloc w _ none) hg⟩
theorem kn_j1 {w : World} {A : Option Addr} {c N : Nat} (h : N = 32768) (R : RI w A c (List.replicate N i0 ++ [ldc])) : Calls Try.prog 20 #[.slice A (N + 1) c] w fun e w' => ∃ A c, e = .returned (.tuple #[.slice A 0 c, .int .i64 3]) ∧ w.grownBy w' none := by
  have k := Join_any (n := N + 1) R (by simp) (by omega)
  unfold Gives at k
  have e := rep_more h
  rw [e, jb_no (by rw [e]; decide)] at k
  exact k.mono fun _ _ ⟨A, c, he, _, hg⟩ => ⟨A, c, he, hg⟩
theorem kn_j2 {w : World} {A : Option Addr} {c N : Nat} (h : N = 32768) (R : RI w A c (List.replicate N i0)) : Calls Try.prog 20 #[.slice A N c] w fun e w' => ∃ A c, e = .returned (.tuple #[.slice A N c, .int .i64 0]) ∧ w.grownBy w' none := by
  have k := Join_any (n := N) R (by simp) (by omega)
  unfold Gives at k
  obtain ⟨e1, e2⟩ := rep_join (n := N) (by omega)
  rw [e1, e2] at k
  exact k.mono fun _ _ ⟨A, c, he, _, hg⟩ => ⟨A, c, he, hg⟩
theorem kn_j3 {w : World} {A : Option Addr} {c N : Nat} (h : N = 32768) (R : RI w A c (List.replicate N i0 ++ [ldc, (2, 0)])) : Calls Try.prog 20 #[.slice A (N + 2) c] w fun e w' => ∃ A c, e = .returned (.tuple #[.slice A 0 c, .int .i64 2]) ∧ w.grownBy w' none := by
  have k := Join_any (n := N + 2) R (by simp) (by omega)
  unfold Gives at k
  have e := rep_bad N
  rw [e, jb_no (by rw [e]; decide)] at k
  exact k.mono fun _ _ ⟨A, c, he, _, hg⟩ => ⟨A, c, he, hg⟩
/-- The first 15 of 16 bytes. -/
theorem own_addr {w : World} {B n c s : Nat} {A : Option Addr} {t : TypeId} {xs : List Value} (h : w.ownsRow B t s (.slice A n c) n xs) (hn : 0 < n) : ∃ g, A = some ⟨g, 0, none⟩ := by
  obtain ⟨g, cap, e, _⟩ := World.ownsRow.form h hn
  injection e with e1 e2 e3
  exact ⟨g, e1⟩
theorem cut_run {g c K : Nat} (hK : K = 15) (h : 16 ≤ c) : ∀ w : World, (Instr.slice 24 (.slice (some ⟨g, 0, none⟩) 16 c) none (some (.int .i64 15)) none).run Try.prog w = .ok (.slice (some ⟨g, 0, none⟩) K c) w := fun w => by
  subst hK
  have h1 : (15 : Int) ≤ (c : Int) := by omega
  have h2 : ¬ c = 0 := by omega
  simp [Instr.slice, Instr.sliceBounds, Instr.sliceBound, asIntOf, run_underlying Try.underlying24, h1, h2, Addr.add_lit]
theorem cut_own {w : World} {B c K : Nat} {A : Option Addr} (hK : K = 15) (h : w.ownsRow B 5 1 (.slice A 16 c) 16 (bs (List.replicate 16 32))) : w.ownsRow B 5 1 (.slice A K c) K (bs (List.replicate K 32)) := by
  subst hK
  exact (own_cut (k := 15) h (by omega) (by omega)).1
/-- Two instructions lie in a row that was made. -/
theorem own_two (w : World) (a b : II) : OwnI (w.alloc (.cells #[.int .u8 (a.1 : Int), .int .i32 a.2, .int .u8 (b.1 : Int), .int .i32 b.2] 23)) w.heap.size (some ⟨w.heap.size, 0, none⟩) 2 2 [a, b] :=
  ⟨rfl, .inr ⟨w.heap.size, 2, _, rfl, Nat.le_refl _, heap_alloc_new w _, Nat.le_refl _, by unfold maxLen; decide, rfl, rfl⟩⟩
theorem two_ok {a b : II} (ha : a.1 < 256 ∧ isW a.2) (hb : b.1 < 256 ∧ isW b.2) : OKI [a, b] := by
  intro p hp
  simp at hp
  rcases hp with rfl | rfl
  · exact ha
  · exact hb
end Go.Proofs.Ytiblicpaeogihaa
