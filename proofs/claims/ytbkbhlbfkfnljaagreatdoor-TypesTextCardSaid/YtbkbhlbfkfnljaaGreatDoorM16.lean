/- The program: the type with which tokens can begin. -/
import Derived.Test.YtbkbhlbfkfnljaaGreatDoorM13
import Derived.Test.YtbkbhlbfkfnljaaGreatDoorM15
set_option linter.unusedVariables false
set_option linter.unusedSimpArgs false
set_option linter.unusedVariables false
set_option linter.unusedSimpArgs false
namespace Go.Proofs.YtbkbhlbfkfnljaaGreatDoor
open Go Go.RowKit L8 L9

theorem size_tok9 (W : World) : (sizeOf (Tryz.prog.elem 25)).run Tryz.prog W = .ok 4 W := by kernel_rfl
theorem slice_3 (ad : Addr) {m c M C : Nat} (hM : M + 3 = m) (hC : C + 3 = c) (h0 : 0 < M) (hc : M ≤ C) (W : World) : (Instr.slice 25 (.slice (some ad) m c) (some (.int .i64 3)) none none).run Tryz.prog W = .ok (.slice (some ⟨ad.block, ad.off + 12, none⟩) M C) W := by
  subst hM hC
  rw [run_slice_l W 25 (some ad) (M + 3) (C + 3) (by kernel_rfl) .i64 3 (by omega) (by omega), size_tok9]
  have e1 : M + 3 - 3 = M := by omega
  have e2 : C + 3 - 3 = C := by omega
  have e3 : ¬ C + 3 = 3 := by omega
  have e4 : ¬ C = 0 := by omega
  simp [Result.andThen, sliced, e1, e2, e3, e4, Addr.add]
theorem RR.from3 {w : World} {ad : Addr} {c C : Nat} {xs : List Tk} (R : RR w (some ad) c xs) (hC : C + 3 = c) : RR w (some ⟨ad.block, ad.off + 12, none⟩) C (xs.drop 3) := by
  refine ⟨by have := R.le; rw [List.length_drop]; omega, by have := R.mx; omega, fun x hx => R.ok x (List.mem_of_mem_drop hx), fun j hj => ⟨_, rfl, ?_⟩⟩
  rw [List.length_drop] at hj
  obtain ⟨ad', e, h⟩ := R.rd (j + 3) (by omega)
  cases e
  have e1 : (⟨ad.block, ad.off + 12, none⟩ : Addr).add (j * 4) = ad.add ((j + 3) * 4) := by
    rw [add_plain, show (j + 3) * 4 = (j * 4 + 11) + 1 by omega, add_succ_, show ad.off + 12 + j * 4 = ad.off + (j * 4 + 11 + 1) by omega]
  have e2 : (xs.drop 3).getD j r0 = xs.getD (j + 3) r0 := by simp [List.getD_eq_getElem?_getD, List.getElem?_drop, Nat.add_comm]
  rw [e1, e2]
  exact h
/-- The tokens' fields that are read at a place that the program names. -/
theorem RR.at0 {w : World} {ad : Addr} {c : Nat} {xs : List Tk} (R : RR w (some ad) c xs) (h : 0 < xs.length) : w.cell? ⟨ad.block, ad.off + 2, none⟩ = some (.string (strOf (xs.getD 0 r0).tx)) := by
  obtain ⟨ad', e, h0, h1, h2, h3⟩ := R.rd 0 h
  cases e
  have hz : ad.add (0 * 4) = ad := by unfold Addr.add; simp
  rw [hz] at h2
  exact h2
theorem RR.at1 {w : World} {ad : Addr} {c : Nat} {xs : List Tk} (R : RR w (some ad) c xs) (h : 1 < xs.length) : w.cell? ⟨ad.block, ad.off + 4 + 3, none⟩ = some (.int .i32 (xs.getD 1 r0).n) := by
  obtain ⟨ad', e, h0, h1, h2, h3⟩ := R.rd 1 h
  cases e
  rw [show ad.add (1 * 4) = ⟨ad.block, ad.off + 4, none⟩ from add_succ_ ad 3] at h3
  exact h3
theorem RR.at2 {w : World} {ad : Addr} {c : Nat} {xs : List Tk} (R : RR w (some ad) c xs) (h : 2 < xs.length) : w.cell? ⟨ad.block, ad.off + 8 + 2, none⟩ = some (.string (strOf (xs.getD 2 r0).tx)) := by
  obtain ⟨ad', e, h0, h1, h2, h3⟩ := R.rd 2 h
  cases e
  rw [show ad.add (2 * 4) = ⟨ad.block, ad.off + 8, none⟩ from add_succ_ ad 7] at h2
  exact h2
theorem tyG_0 {d : Int} {r : List Tk} (h : ¬ 0 < r.length) : tyG d r = ⟨0, d, 0, []⟩ := by
  unfold tyG kindG
  rw [if_neg h, if_neg (by rintro ⟨h, _⟩; cases h)]
theorem tyG_1 {d : Int} {r : List Tk} {k : Nat} (h : 0 < r.length) (hk : kOf (r.getD 0 r0).tx = k) (h4 : ¬ (k = 4 ∧ 2 < r.length)) : tyG d r = ⟨k, d, 0, []⟩ := by
  unfold tyG kindG
  rw [if_pos h, hk, if_neg h4]
theorem tyG_3 {d : Int} {r : List Tk} {k i : Nat} (hk : kOf (r.getD 0 r0).tx = k) (h4 : k = 4) (h2 : 2 < r.length) (hi : kOf (r.getD 2 r0).tx = i) (hp : prim i = true) : tyG d r = ⟨k, d, i, []⟩ := by
  unfold tyG kindG
  rw [if_pos (show 0 < r.length by omega), hk, if_pos ⟨h4, h2⟩, hi, if_pos hp, h4]
theorem tyG_4 {d : Int} {r : List Tk} {k i : Nat} (hk : kOf (r.getD 0 r0).tx = k) (h4 : k = 4) (h2 : 2 < r.length) (hi : kOf (r.getD 2 r0).tx = i) (hp : prim i = false) : tyG d r = ⟨k, d, 0, (r.getD 2 r0).tx⟩ := by
  unfold tyG kindG
  rw [if_pos (show 0 < r.length by omega), hk, if_pos ⟨h4, h2⟩, hi, hp, if_neg (by decide), h4]
theorem guess_eq {xs : List Tk} {b : Bool} (h : brk xs = b) : guessT xs = tyG (if b = true then (xs.getD 1 r0).n else 0) (if b = true then xs.drop 3 else xs) := by
  unfold guessT dimG restG
  rw [h]
set_option maxRecDepth 100000 in
set_option maxHeartbeats 16000000 in
theorem PGuess_any {A : Option Addr} {c m : Nat} {xs : List Tk} {w : World} (R : RR w A c xs) (hm : xs.length = m) (ht : T9 w) : Calls Tryz.prog 30 #[.slice A m c] w fun e w' => e = .returned (tyV (guessT xs)) ∧ Below w.heap.size w w' := by
  have hmx : m ≤ maxLen := by have := R.le; have := R.mx; omega
  unfold maxLen at hmx
  have HT := Lib.hid (fun (o : Obj) => show T9 (w.alloc o) from ht.below (bal (b0 w) o))
  have HB := Lib.hid (fun (o : Obj) => bal (b0 w) o)
  have CP : Hid (∀ (k : Nat) (hk : k < 256) (W : World), T9 W → Calls Tryz.prog 14 #[.int .u8 (k : Int)] W fun e w' => e = .returned (.bool (prim k)) ∧ W = w') := Lib.hid fun k hk W h => PPrim_any k hk W h
  clear ht
  by_cases h0 : 0 < (m : Int)
  · obtain ⟨ad, rfl, _⟩ := R.rd 0 (by omega)
    have s0 : ∀ o, (w.alloc o).cell? ⟨ad.block, ad.off + 2, none⟩ = some (.string (strOf (xs.getD 0 r0).tx)) := fun o => (R.keep (HB.out o)).at0 (by omega)
    have q91 := eq_91 (xs.getD 0 r0).tx
    by_cases h3 : 3 < (m : Int)
    · by_cases hb : (xs.getD 0 r0).tx = [91]
      · have hbk : brk xs = true := by unfold brk; rw [decide_eq_true (show 3 < xs.length by omega), decide_eq_true hb]; rfl
        have hE := guess_eq hbk
        rw [if_pos rfl, if_pos rfl] at hE
        rw [decide_eq_true hb] at q91
        obtain ⟨M, hM⟩ : ∃ M, M + 3 = m := ⟨m - 3, by omega⟩
        obtain ⟨C, hC⟩ : ∃ C, C + 3 = c := ⟨c - 3, by have := R.le; omega⟩
        have hsl := slice_3 ad hM hC (by omega) (by have := R.le; omega)
        have HQ := Lib.hid (R.from3 hC)
        have hq : (xs.drop 3).length = M := by rw [List.length_drop]; omega
        have hM0 : 0 < (M : Int) := by omega
        have n1 : ∀ o, (w.alloc o).cell? ⟨ad.block, ad.off + 4 + 3, none⟩ = some (.int .i32 (xs.getD 1 r0).n) := fun o => (R.keep (HB.out o)).at1 (by omega)
        have hn := (R.ok.get 1).2.2
        generalize (xs.getD 1 r0).n = d at *
        generalize hr : xs.drop 3 = r at *
        clear hr R hm hM hC hb hbk
        generalize strOf (xs.getD 0 r0).tx = S91 at *
        obtain ⟨hn1, hn2⟩ := hn
        generalize hp : (⟨ad.block, ad.off + 12, none⟩ : Addr) = ad' at *
        clear hp
        have C1 : Hid (∀ W : World, T9 W → Calls Tryz.prog 49 #[.string (strOf (r.getD 0 r0).tx)] W fun e w' => e = .returned (.int .u8 (kOf (r.getD 0 r0).tx : Int)) ∧ W = w') := Lib.hid fun W h => PKind_any _ W h
        have hk5 : (kOf (r.getD 0 r0).tx : Int) ≤ 5 := by have := kOf_le (r.getD 0 r0).tx; omega
        have q4 : ((kOf (r.getD 0 r0).tx : Int) != 4) = !decide (kOf (r.getD 0 r0).tx = 4) := int_nat_neq _ 4
        have t0 : ∀ o, (w.alloc o).cell? ⟨ad'.block, ad'.off + 2, none⟩ = some (.string (strOf (r.getD 0 r0).tx)) := fun o => (HQ.out.keep (HB.out o)).at0 (by omega)
        generalize hk : kOf (r.getD 0 r0).tx = k0 at *
        have hk0 : (0 : Int) ≤ (k0 : Int) := by omega
        have HKk := Lib.hid hk
        clear hk
        generalize strOf (r.getD 0 r0).tx = S0 at *
        by_cases h4 : k0 = 4
        · rw [decide_eq_true h4] at q4
          by_cases h2 : 2 < (M : Int)
          · have C2 : Hid (∀ W : World, T9 W → Calls Tryz.prog 49 #[.string (strOf (r.getD 2 r0).tx)] W fun e w' => e = .returned (.int .u8 (kOf (r.getD 2 r0).tx : Int)) ∧ W = w') := Lib.hid fun W h => PKind_any _ W h
            have hi5 : kOf (r.getD 2 r0).tx ≤ 5 := kOf_le _
            have t2 : ∀ o, (w.alloc o).cell? ⟨ad'.block, ad'.off + 8 + 2, none⟩ = some (.string (strOf (r.getD 2 r0).tx)) := fun o => (HQ.out.keep (HB.out o)).at2 (by omega)
            generalize hi : kOf (r.getD 2 r0).tx = i0 at *
            have HI := Lib.hid hi
            clear hi
            have hi0 : (0 : Int) ≤ (i0 : Int) := by omega
            have hi6 : (i0 : Int) ≤ 5 := by omega
            have CI := Lib.hid (CP.out i0 (by omega))
            cases hp : prim i0 with
            | true =>
              rw [hp] at CI
              rw [hE, tyG_3 HKk.out h4 (by omega) HI.out hp]
              clear hE hp h4 hi5
              generalize strOf (r.getD 2 r0).tx = S2 at *
              dsimp only [tyV]
              go_enter Tryz.func30, Tryz.ntmps30
              go_wp2_with (first
                | (go_at_call 49; (with_reducible refine (C1.out _ (HT.out _)).mono ?_); rintro e w2 ⟨rfl, rfl⟩)
                | (go_at_call 49; (with_reducible refine (C2.out _ (HT.out _)).mono ?_); rintro e w3 ⟨rfl, rfl⟩)
                | (go_at_call 14; (with_reducible refine (CI.out _ (HT.out _)).mono ?_); rintro e w4 ⟨rfl, rfl⟩))
              first
              | (go_ret
                 exact ⟨rfl, HB.out _⟩)
              | (refine bodyPost_ret (v := .agg #[.int .u8 (k0 : Int), .int .i64 d, .int .u8 (i0 : Int), .string ⟨#[]⟩]) (by simp [results, Tryz.results30, go_sem]) rfl ⟨rfl, HB.out _⟩)
            | false =>
              rw [hp] at CI
              rw [hE, tyG_4 HKk.out h4 (by omega) HI.out hp]
              clear hE hp h4 hi5
              dsimp only [tyV]
              generalize strOf (r.getD 2 r0).tx = S2 at *
              go_enter Tryz.func30, Tryz.ntmps30
              go_wp2_with (first
                | (go_at_call 49; (with_reducible refine (C1.out _ (HT.out _)).mono ?_); rintro e w2 ⟨rfl, rfl⟩)
                | (go_at_call 49; (with_reducible refine (C2.out _ (HT.out _)).mono ?_); rintro e w3 ⟨rfl, rfl⟩)
                | (go_at_call 14; (with_reducible refine (CI.out _ (HT.out _)).mono ?_); rintro e w4 ⟨rfl, rfl⟩))
              first
              | (go_ret
                 exact ⟨rfl, HB.out _⟩)
              | (refine bodyPost_ret (v := .agg #[.int .u8 (k0 : Int), .int .i64 d, .int .u8 0, .string S2]) (by simp [results, Tryz.results30, go_sem]) rfl ⟨rfl, HB.out _⟩)
          · rw [hE, tyG_1 (by omega) HKk.out (fun h => by omega)]
            clear hE h4
            dsimp only [tyV]
            go_enter Tryz.func30, Tryz.ntmps30
            go_wp2_with (first
              | (go_at_call 49; (with_reducible refine (C1.out _ (HT.out _)).mono ?_); rintro e w2 ⟨rfl, rfl⟩))
            first
            | (go_ret
               exact ⟨rfl, HB.out _⟩)
            | (refine bodyPost_ret (v := .agg #[.int .u8 (k0 : Int), .int .i64 d, .int .u8 0, .string ⟨#[]⟩]) (by simp [results, Tryz.results30, go_sem]) rfl ⟨rfl, HB.out _⟩)
        · rw [decide_eq_false h4] at q4
          rw [hE, tyG_1 (by omega) HKk.out (fun h => h4 h.1)]
          clear hE h4
          dsimp only [tyV]
          go_enter Tryz.func30, Tryz.ntmps30
          go_wp2_with (first
            | (go_at_call 49; (with_reducible refine (C1.out _ (HT.out _)).mono ?_); rintro e w2 ⟨rfl, rfl⟩))
          first
          | (go_ret
             exact ⟨rfl, HB.out _⟩)
          | (refine bodyPost_ret (v := .agg #[.int .u8 (k0 : Int), .int .i64 d, .int .u8 0, .string ⟨#[]⟩]) (by simp [results, Tryz.results30, go_sem]) rfl ⟨rfl, HB.out _⟩)
      · have hbk : brk xs = false := by unfold brk; rw [decide_eq_false hb, Bool.and_false]
        rw [decide_eq_false hb] at q91
        have hE := guess_eq hbk
        rw [if_neg (by decide), if_neg (by decide)] at hE
        have HQ := Lib.hid R
        have hq := hm
        clear R hm hbk hb
        have C1 : Hid (∀ W : World, T9 W → Calls Tryz.prog 49 #[.string (strOf (xs.getD 0 r0).tx)] W fun e w' => e = .returned (.int .u8 (kOf (xs.getD 0 r0).tx : Int)) ∧ W = w') := Lib.hid fun W h => PKind_any _ W h
        have hk5 : (kOf (xs.getD 0 r0).tx : Int) ≤ 5 := by have := kOf_le (xs.getD 0 r0).tx; omega
        have q4 : ((kOf (xs.getD 0 r0).tx : Int) != 4) = !decide (kOf (xs.getD 0 r0).tx = 4) := int_nat_neq _ 4
        have t0 : ∀ o, (w.alloc o).cell? ⟨ad.block, ad.off + 2, none⟩ = some (.string (strOf (xs.getD 0 r0).tx)) := fun o => (HQ.out.keep (HB.out o)).at0 (by omega)
        generalize hk : kOf (xs.getD 0 r0).tx = k0 at *
        have hk0 : (0 : Int) ≤ (k0 : Int) := by omega
        have HKk := Lib.hid hk
        clear hk
        generalize strOf (xs.getD 0 r0).tx = S0 at *
        by_cases h4 : k0 = 4
        · rw [decide_eq_true h4] at q4
          by_cases h2 : 2 < (m : Int)
          · have C2 : Hid (∀ W : World, T9 W → Calls Tryz.prog 49 #[.string (strOf (xs.getD 2 r0).tx)] W fun e w' => e = .returned (.int .u8 (kOf (xs.getD 2 r0).tx : Int)) ∧ W = w') := Lib.hid fun W h => PKind_any _ W h
            have hi5 : kOf (xs.getD 2 r0).tx ≤ 5 := kOf_le _
            have t2 : ∀ o, (w.alloc o).cell? ⟨ad.block, ad.off + 8 + 2, none⟩ = some (.string (strOf (xs.getD 2 r0).tx)) := fun o => (HQ.out.keep (HB.out o)).at2 (by omega)
            generalize hi : kOf (xs.getD 2 r0).tx = i0 at *
            have HI := Lib.hid hi
            clear hi
            have hi0 : (0 : Int) ≤ (i0 : Int) := by omega
            have hi6 : (i0 : Int) ≤ 5 := by omega
            have CI := Lib.hid (CP.out i0 (by omega))
            cases hp : prim i0 with
            | true =>
              rw [hp] at CI
              rw [hE, tyG_3 HKk.out h4 (by omega) HI.out hp]
              clear hE hp h4 hi5
              generalize strOf (xs.getD 2 r0).tx = S2 at *
              dsimp only [tyV]
              go_enter Tryz.func30, Tryz.ntmps30
              go_wp2_with (first
                | (go_at_call 49; (with_reducible refine (C1.out _ (HT.out _)).mono ?_); rintro e w2 ⟨rfl, rfl⟩)
                | (go_at_call 49; (with_reducible refine (C2.out _ (HT.out _)).mono ?_); rintro e w3 ⟨rfl, rfl⟩)
                | (go_at_call 14; (with_reducible refine (CI.out _ (HT.out _)).mono ?_); rintro e w4 ⟨rfl, rfl⟩))
              first
              | (go_ret
                 exact ⟨rfl, HB.out _⟩)
              | (refine bodyPost_ret (v := .agg #[.int .u8 (k0 : Int), .int .i64 0, .int .u8 (i0 : Int), .string ⟨#[]⟩]) (by simp [results, Tryz.results30, go_sem]) rfl ⟨rfl, HB.out _⟩)
            | false =>
              rw [hp] at CI
              rw [hE, tyG_4 HKk.out h4 (by omega) HI.out hp]
              clear hE hp h4 hi5
              dsimp only [tyV]
              generalize strOf (xs.getD 2 r0).tx = S2 at *
              go_enter Tryz.func30, Tryz.ntmps30
              go_wp2_with (first
                | (go_at_call 49; (with_reducible refine (C1.out _ (HT.out _)).mono ?_); rintro e w2 ⟨rfl, rfl⟩)
                | (go_at_call 49; (with_reducible refine (C2.out _ (HT.out _)).mono ?_); rintro e w3 ⟨rfl, rfl⟩)
                | (go_at_call 14; (with_reducible refine (CI.out _ (HT.out _)).mono ?_); rintro e w4 ⟨rfl, rfl⟩))
              first
              | (go_ret
                 exact ⟨rfl, HB.out _⟩)
              | (refine bodyPost_ret (v := .agg #[.int .u8 (k0 : Int), .int .i64 0, .int .u8 0, .string S2]) (by simp [results, Tryz.results30, go_sem]) rfl ⟨rfl, HB.out _⟩)
          · exact absurd (show 2 < (m : Int) by omega) h2
        · rw [decide_eq_false h4] at q4
          rw [hE, tyG_1 (by omega) HKk.out (fun h => h4 h.1)]
          clear hE h4
          dsimp only [tyV]
          go_enter Tryz.func30, Tryz.ntmps30
          go_wp2_with (first
            | (go_at_call 49; (with_reducible refine (C1.out _ (HT.out _)).mono ?_); rintro e w2 ⟨rfl, rfl⟩))
          first
          | (go_ret
             exact ⟨rfl, HB.out _⟩)
          | (refine bodyPost_ret (v := .agg #[.int .u8 (k0 : Int), .int .i64 0, .int .u8 0, .string ⟨#[]⟩]) (by simp [results, Tryz.results30, go_sem]) rfl ⟨rfl, HB.out _⟩)
    · have hbk : brk xs = false := by unfold brk; rw [decide_eq_false (show ¬ 3 < xs.length by omega), Bool.false_and]
      have hE := guess_eq hbk
      rw [if_neg (by decide), if_neg (by decide)] at hE
      have HQ := Lib.hid R
      have hq := hm
      clear R hm hbk q91 s0
      have C1 : Hid (∀ W : World, T9 W → Calls Tryz.prog 49 #[.string (strOf (xs.getD 0 r0).tx)] W fun e w' => e = .returned (.int .u8 (kOf (xs.getD 0 r0).tx : Int)) ∧ W = w') := Lib.hid fun W h => PKind_any _ W h
      have hk5 : (kOf (xs.getD 0 r0).tx : Int) ≤ 5 := by have := kOf_le (xs.getD 0 r0).tx; omega
      have q4 : ((kOf (xs.getD 0 r0).tx : Int) != 4) = !decide (kOf (xs.getD 0 r0).tx = 4) := int_nat_neq _ 4
      have t0 : ∀ o, (w.alloc o).cell? ⟨ad.block, ad.off + 2, none⟩ = some (.string (strOf (xs.getD 0 r0).tx)) := fun o => (HQ.out.keep (HB.out o)).at0 (by omega)
      generalize hk : kOf (xs.getD 0 r0).tx = k0 at *
      have hk0 : (0 : Int) ≤ (k0 : Int) := by omega
      have HKk := Lib.hid hk
      clear hk
      generalize strOf (xs.getD 0 r0).tx = S0 at *
      by_cases h4 : k0 = 4
      · rw [decide_eq_true h4] at q4
        by_cases h2 : 2 < (m : Int)
        · have C2 : Hid (∀ W : World, T9 W → Calls Tryz.prog 49 #[.string (strOf (xs.getD 2 r0).tx)] W fun e w' => e = .returned (.int .u8 (kOf (xs.getD 2 r0).tx : Int)) ∧ W = w') := Lib.hid fun W h => PKind_any _ W h
          have hi5 : kOf (xs.getD 2 r0).tx ≤ 5 := kOf_le _
          have t2 : ∀ o, (w.alloc o).cell? ⟨ad.block, ad.off + 8 + 2, none⟩ = some (.string (strOf (xs.getD 2 r0).tx)) := fun o => (HQ.out.keep (HB.out o)).at2 (by omega)
          generalize hi : kOf (xs.getD 2 r0).tx = i0 at *
          have HI := Lib.hid hi
          clear hi
          have hi0 : (0 : Int) ≤ (i0 : Int) := by omega
          have hi6 : (i0 : Int) ≤ 5 := by omega
          have CI := Lib.hid (CP.out i0 (by omega))
          cases hp : prim i0 with
          | true =>
            rw [hp] at CI
            rw [hE, tyG_3 HKk.out h4 (by omega) HI.out hp]
            clear hE hp h4 hi5
            generalize strOf (xs.getD 2 r0).tx = S2 at *
            dsimp only [tyV]
            go_enter Tryz.func30, Tryz.ntmps30
            go_wp2_with (first
              | (go_at_call 49; (with_reducible refine (C1.out _ (HT.out _)).mono ?_); rintro e w2 ⟨rfl, rfl⟩)
              | (go_at_call 49; (with_reducible refine (C2.out _ (HT.out _)).mono ?_); rintro e w3 ⟨rfl, rfl⟩)
              | (go_at_call 14; (with_reducible refine (CI.out _ (HT.out _)).mono ?_); rintro e w4 ⟨rfl, rfl⟩))
            first
            | (go_ret
               exact ⟨rfl, HB.out _⟩)
            | (refine bodyPost_ret (v := .agg #[.int .u8 (k0 : Int), .int .i64 0, .int .u8 (i0 : Int), .string ⟨#[]⟩]) (by simp [results, Tryz.results30, go_sem]) rfl ⟨rfl, HB.out _⟩)
          | false =>
            rw [hp] at CI
            rw [hE, tyG_4 HKk.out h4 (by omega) HI.out hp]
            clear hE hp h4 hi5
            dsimp only [tyV]
            generalize strOf (xs.getD 2 r0).tx = S2 at *
            go_enter Tryz.func30, Tryz.ntmps30
            go_wp2_with (first
              | (go_at_call 49; (with_reducible refine (C1.out _ (HT.out _)).mono ?_); rintro e w2 ⟨rfl, rfl⟩)
              | (go_at_call 49; (with_reducible refine (C2.out _ (HT.out _)).mono ?_); rintro e w3 ⟨rfl, rfl⟩)
              | (go_at_call 14; (with_reducible refine (CI.out _ (HT.out _)).mono ?_); rintro e w4 ⟨rfl, rfl⟩))
            first
            | (go_ret
               exact ⟨rfl, HB.out _⟩)
            | (refine bodyPost_ret (v := .agg #[.int .u8 (k0 : Int), .int .i64 0, .int .u8 0, .string S2]) (by simp [results, Tryz.results30, go_sem]) rfl ⟨rfl, HB.out _⟩)
        · rw [hE, tyG_1 (by omega) HKk.out (fun h => by omega)]
          clear hE h4
          dsimp only [tyV]
          go_enter Tryz.func30, Tryz.ntmps30
          go_wp2_with (first
            | (go_at_call 49; (with_reducible refine (C1.out _ (HT.out _)).mono ?_); rintro e w2 ⟨rfl, rfl⟩))
          first
          | (go_ret
             exact ⟨rfl, HB.out _⟩)
          | (refine bodyPost_ret (v := .agg #[.int .u8 (k0 : Int), .int .i64 0, .int .u8 0, .string ⟨#[]⟩]) (by simp [results, Tryz.results30, go_sem]) rfl ⟨rfl, HB.out _⟩)
      · rw [decide_eq_false h4] at q4
        rw [hE, tyG_1 (by omega) HKk.out (fun h => h4 h.1)]
        clear hE h4
        dsimp only [tyV]
        go_enter Tryz.func30, Tryz.ntmps30
        go_wp2_with (first
          | (go_at_call 49; (with_reducible refine (C1.out _ (HT.out _)).mono ?_); rintro e w2 ⟨rfl, rfl⟩))
        first
        | (go_ret
           exact ⟨rfl, HB.out _⟩)
        | (refine bodyPost_ret (v := .agg #[.int .u8 (k0 : Int), .int .i64 0, .int .u8 0, .string ⟨#[]⟩]) (by simp [results, Tryz.results30, go_sem]) rfl ⟨rfl, HB.out _⟩)
  · have hbk : brk xs = false := by unfold brk; rw [decide_eq_false (show ¬ 3 < xs.length by omega), Bool.false_and]
    have hE := guess_eq hbk
    rw [if_neg (by decide), if_neg (by decide), tyG_0 (by omega)] at hE
    rw [hE]
    have hm0 : m = 0 := by omega
    subst hm0
    clear hE R hm hbk CP h0
    dsimp only [tyV]
    go_enter Tryz.func30, Tryz.ntmps30
    go_wp2
    first
    | (go_ret
       exact ⟨rfl, HB.out _⟩)
    | (refine bodyPost_ret (v := .agg #[.int .u8 0, .int .i64 0, .int .u8 0, .string ⟨#[]⟩]) (by simp [results, Tryz.results30, go_sem]) rfl ⟨rfl, HB.out _⟩)
end Go.Proofs.YtbkbhlbfkfnljaaGreatDoor
