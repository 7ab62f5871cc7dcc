/- The program: types that exist, words, values; protocols that exist. -/
import Derived.Test.YtbkbhlbfkfnljaaGreatDoorM11
set_option linter.unusedVariables false
set_option linter.unusedSimpArgs false
set_option linter.unusedVariables false
set_option linter.unusedSimpArgs false
namespace Go.Proofs.YtbkbhlbfkfnljaaGreatDoor
open Go Go.RowKit L8 L9

theorem mayT_chan0 {d : Int} {i : Nat} (h : ¬ (d < 0 ∨ 64 < d)) : mayT ⟨4, d, i, []⟩ = prim i := by
  rw [may_c (t := ⟨4, d, i, []⟩) h rfl]
  simp [show isName [] = false from by decide]
theorem mayT_chan1 {d : Int} {i : Nat} {p : Bs} (h : ¬ (d < 0 ∨ 64 < d)) (hp : p ≠ []) : mayT ⟨4, d, i, p⟩ = (decide (i = 0) && isName p) := by
  rw [may_c (t := ⟨4, d, i, p⟩) h rfl]
  simp [hp]
theorem mayT_other {d : Int} {k i : Nat} {p : Bs} (h : ¬ (d < 0 ∨ 64 < d)) (hk : k ≠ 1) (hk2 : k ≠ 2) (hk3 : k ≠ 3) (hk4 : k ≠ 4) (hk5 : k ≠ 5) : mayT ⟨k, d, i, p⟩ = false := by
  rw [may_t (t := ⟨k, d, i, p⟩) h (by unfold prim; simp [hk, hk2, hk3]) hk4]
  simp [tTimer, hk5]
theorem mayT_prim {d : Int} {k i : Nat} {p : Bs} (h : ¬ (d < 0 ∨ 64 < d)) (hk : prim k = true) : mayT ⟨k, d, i, p⟩ = (decide (i = 0) && decide (p = [])) := may_p (t := ⟨k, d, i, p⟩) h hk
set_option maxRecDepth 100000 in
set_option maxHeartbeats 8000000 in
theorem PMay_any (t : Ty) (hx : OKt t) (w : World) (ht : T9 w) : Calls Tryz.prog 5 #[tyV t] w fun e w' => e = .returned (.bool (mayT t)) ∧ Below w.heap.size w w' := by
  have HT := Lib.hid (fun (X : World) (b : Below w.heap.size w X) => ht.below b)
  obtain ⟨k, d, i, p⟩ := t
  have hl : p.length ≤ maxLen := hx.2.2.1
  have hk256 : (k : Int) < 256 := by have := hx.1; dsimp only at this; omega
  have hi256 : i < 256 := hx.2.1
  have hk0 : (0 : Int) ≤ (k : Int) := by omega
  have bx := Lib.hid (boxS_new w 24 #[.int .u8 (k : Int), .int .i64 d, .int .u8 (i : Int), .string (strOf p)])
  have bV := Lib.hid (bal (b0 w) (.cells #[.int .u8 (k : Int), .int .i64 d, .int .u8 (i : Int), .string (strOf p)] 24))
  have CN := Lib.hid (fun (W : World) => Name_any p hl W)
  have CI := Lib.hid (PPrim_any i hi256 _ (HT.out _ bV.out))
  have he := eq_nil9 p
  have q1 : ((k : Int) == 1) = decide (k = 1) := nat_eq k 1
  have q2 : ((k : Int) == 2) = decide (k = 2) := nat_eq k 2
  have q3 : ((k : Int) == 3) = decide (k = 3) := nat_eq k 3
  have q4 : ((k : Int) == 4) = decide (k = 4) := nat_eq k 4
  have q5 : ((k : Int) == 5) = decide (k = 5) := nat_eq k 5
  have q0 : ((i : Int) == 0) = decide (i = 0) := nat_eq i 0
  clear hx hl ht
  dsimp only [tyV]
  by_cases hd : d < 0
  · rw [may_hi (t := ⟨k, d, i, p⟩) (.inl hd)]
    go_enter Tryz.func5, Tryz.ntmps5
    go_wp2
    go_ret
    exact ⟨rfl, bV.out⟩
  by_cases hd2 : 64 < d
  · rw [may_hi (t := ⟨k, d, i, p⟩) (.inr hd2)]
    go_enter Tryz.func5, Tryz.ntmps5
    go_wp2
    go_ret
    exact ⟨rfl, bV.out⟩
  have hdd : ¬ (d < 0 ∨ 64 < d) := by omega
  by_cases hp : prim k = true
  · rw [mayT_prim hdd hp]
    have hk := (prim_iff k).1 hp
    generalize decide (p = []) = b1 at *
    generalize decide (i = 0) = b2 at *
    clear hdd hp CN CI
    rcases hk with rfl | rfl | rfl
    all_goals
      cases b1 <;> cases b2
      all_goals
        go_enter Tryz.func5, Tryz.ntmps5
        go_wp2
        go_ret
        exact ⟨rfl, bV.out⟩
  have hk1 : k ≠ 1 := fun e => hp ((prim_iff k).2 (.inl e))
  have hk2 : k ≠ 2 := fun e => hp ((prim_iff k).2 (.inr (.inl e)))
  have hk3 : k ≠ 3 := fun e => hp ((prim_iff k).2 (.inr (.inr e)))
  rw [decide_eq_false hk1] at q1
  rw [decide_eq_false hk2] at q2
  rw [decide_eq_false hk3] at q3
  by_cases h4 : k = 4
  · rw [decide_eq_true h4] at q4
    have hc : ∀ d i p, mayT ⟨k, d, i, p⟩ = mayT ⟨4, d, i, p⟩ := fun d i p => by rw [h4]
    clear hp hk1 hk2 hk3 q5
    by_cases hpn : p = []
    · rw [decide_eq_true hpn] at he
      have hr : mayT ⟨k, d, i, p⟩ = prim i := by rw [hc, hpn]; exact mayT_chan0 hdd
      rw [hr]
      clear hdd hpn CN hr hc h4
      generalize prim i = b3 at *
      generalize strOf p = S at *
      go_enter Tryz.func5, Tryz.ntmps5
      go_wp2_with (go_at_call 14; (with_reducible refine (CI.out).mono ?_); rintro e w2 ⟨rfl, rfl⟩)
      go_ret
      exact ⟨rfl, bV.out⟩
    · rw [decide_eq_false hpn] at he
      rw [hc, mayT_chan1 hdd hpn]
      clear hdd hpn CI hc h4
      generalize decide (i = 0) = b2 at *
      generalize isName p = b4 at *
      generalize strOf p = S at *
      cases b2
      all_goals
        go_enter Tryz.func5, Tryz.ntmps5
        go_wp2_with (go_at_call 15; (with_reducible refine (CN.out _).mono ?_); rintro e w3 ⟨rfl, rfl⟩)
        go_ret
        exact ⟨rfl, bV.out⟩
  rw [decide_eq_false h4] at q4
  by_cases h5 : k = 5
  · subst h5
    have hq := fun W => eq_ty ⟨5, d, i, p⟩ tTimer W
    have hr : mayT ⟨5, d, i, p⟩ = decide ((⟨5, d, i, p⟩ : Ty) = tTimer) := may_t (t := ⟨5, d, i, p⟩) hdd rfl (show (5 : Nat) ≠ 4 by decide)
    rw [hr]
    clear hr hp hk1 hk2 hk3 hdd CN CI h4
    generalize decide ((⟨5, d, i, p⟩ : Ty) = tTimer) = r at *
    have hq2 : ∀ W : World, (Op.equalIn 10000 24 (.agg #[.int .u8 5, .int .i64 d, .int .u8 (i : Int), .string (strOf p)]) (.agg #[.int .u8 5, .int .i64 0, .int .u8 0, .string ⟨#[]⟩])).run Tryz.prog W = .ok r W := hq
    clear hq
    go_enter Tryz.func5, Tryz.ntmps5
    go_wp2
    go_ret
    exact ⟨rfl, bV.out⟩
  · rw [decide_eq_false h5] at q5
    rw [mayT_other hdd hk1 hk2 hk3 h4 h5]
    clear hp hk1 hk2 hk3 hdd CN CI h4 h5
    go_enter Tryz.func5, Tryz.ntmps5
    go_wp2
    go_ret
    exact ⟨rfl, bV.out⟩
/-! ### Values, sizes, words, equal types -/
set_option maxRecDepth 100000 in
theorem PFits_any (k : Nat) (v : Int) (w : World) (ht : T9 w) : Calls Tryz.prog 20 #[.int .u8 (k : Int), .int .i32 v] w fun e w' => e = .returned (.bool (fits k v)) ∧ Below w.heap.size w w' := by
  have q1 : ((k : Int) == 1) = decide (k = 1) := nat_eq k 1
  have q2 : ((k : Int) == 2) = decide (k = 2) := nat_eq k 2
  have q3 : ((k : Int) == 3) = decide (k = 3) := nat_eq k 3
  have hf : fits k v = (decide (k = 1) || (!decide (k = 1) && ((decide (k = 2) && (decide (0 ≤ v) && decide (v ≤ 255))) || (!decide (k = 2) && (decide (k = 3) && (decide (0 ≤ v) && decide (v ≤ 1))))))) := by
    unfold fits
    have : (decide (v = 0) || decide (v = 1)) = (decide (0 ≤ v) && decide (v ≤ 1)) := by
      by_cases h0 : v = 0
      · subst h0; rfl
      · by_cases h1 : v = 1
        · subst h1; rfl
        · by_cases h2 : 0 ≤ v
          · simp [h0, h1, h2]; omega
          · simp [h0, h1, h2]
    by_cases h1 : k = 1 <;> by_cases h2 : k = 2 <;> by_cases h3 : k = 3 <;> simp [h1, h2, h3, this]
  rw [hf]
  have bV := Lib.hid (b0 w)
  clear hf ht
  generalize decide (k = 1) = b1 at *
  generalize decide (k = 2) = b2 at *
  generalize decide (k = 3) = b3 at *
  by_cases g1 : 0 ≤ v <;> by_cases g2 : v ≤ 255 <;> by_cases g3 : v ≤ 1
  all_goals
    simp only [g1, g2, g3, decide_true, decide_false]
    cases b1 <;> cases b2 <;> cases b3
    all_goals
      go_enter Tryz.func20, Tryz.ntmps20
      go_wp2
      go_ret
      first | exact ⟨rfl, bV.out⟩ | exact ⟨ret_b (by simp [g1, g2, g3]), bV.out⟩ | exact ⟨ret_b (by simp; omega), bV.out⟩
theorem PSize_any (k : Nat) (hk : k < 256) (w : World) (ht : T9 w) : Calls Tryz.prog 19 #[.int .u8 (k : Int)] w fun e w' => e = .returned (.int .i64 (sizeK k)) ∧ Below w.heap.size w w' :=
  (PSz_any k hk w ht).mono fun e w' ⟨h, g⟩ => ⟨h, by rw [← g]; exact b0 w⟩
set_option maxRecDepth 100000 in
theorem PWords_any (t : Ty) (hx : OKt t) (w : World) (ht : T9 w) : Calls Tryz.prog 18 #[tyV t] w fun e w' => e = .returned (.int .i64 (wordsT t)) ∧ Below w.heap.size w w' := by
  have bV := Lib.hid (bal (b0 w) (.cells (tyC t) 24))
  have C := Lib.hid (PMay_any t hx _ (ht.below bV.out))
  obtain ⟨k, d, i, p⟩ := t
  have bx := Lib.hid (boxS_new w 24 #[.int .u8 (k : Int), .int .i64 d, .int .u8 (i : Int), .string (strOf p)])
  have q5 : ((k : Int) == 5) = decide (k = 5) := nat_eq k 5
  have hm : mayT ⟨k, d, i, p⟩ = true → 0 ≤ d := fun h => (may_ways h).1.1
  have hs : wordsT ⟨k, d, i, p⟩ = if mayT ⟨k, d, i, p⟩ = true then (if decide (k = 5) = true then 0 else if d = 0 then 1 else d) else 0 := by
    unfold wordsT
    by_cases h5 : k = 5 <;> simp [h5]
  rw [hs]
  clear hs hx ht
  dsimp only [tyV, tyC] at *
  generalize decide (k = 5) = b1 at *
  generalize mayT ⟨k, d, i, p⟩ = b3 at *
  generalize strOf p = S at *
  cases b3
  · clear hm
    go_enter Tryz.func18, Tryz.ntmps18
    go_wp2_with (go_at_call 5; (with_reducible refine (C.out).mono ?_); rintro e w2 ⟨rfl, b⟩; obtain ⟨⟨x0, x1, x2, x3⟩, xl⟩ := box4 (bx.out.below b); have B2 := Lib.hid (blw bV.out b); clear b)
    go_ret
    exact ⟨rfl, B2.out⟩
  · have hd := hm rfl
    clear hm
    cases b1
    · by_cases h0 : d = 0
      · subst h0
        go_enter Tryz.func18, Tryz.ntmps18
        go_wp2_with (go_at_call 5; (with_reducible refine (C.out).mono ?_); rintro e w2 ⟨rfl, b⟩; obtain ⟨⟨x0, x1, x2, x3⟩, xl⟩ := box4 (bx.out.below b); have B2 := Lib.hid (blw bV.out b); clear b)
        go_ret
        exact ⟨rfl, B2.out⟩
      · have h1 : 1 ≤ d := by omega
        rw [if_pos rfl, if_neg (by decide), if_neg h0]
        go_enter Tryz.func18, Tryz.ntmps18
        go_wp2_with (go_at_call 5; (with_reducible refine (C.out).mono ?_); rintro e w2 ⟨rfl, b⟩; obtain ⟨⟨x0, x1, x2, x3⟩, xl⟩ := box4 (bx.out.below b); have B2 := Lib.hid (blw bV.out b); clear b)
        go_ret
        first | exact ⟨rfl, B2.out⟩ | exact ⟨ret_i (by omega), B2.out⟩ | exact ⟨ret_i (by simp; omega), B2.out⟩
    · go_enter Tryz.func18, Tryz.ntmps18
      go_wp2_with (go_at_call 5; (with_reducible refine (C.out).mono ?_); rintro e w2 ⟨rfl, b⟩; obtain ⟨⟨x0, x1, x2, x3⟩, xl⟩ := box4 (bx.out.below b); have B2 := Lib.hid (blw bV.out b); clear b)
      go_ret
      exact ⟨rfl, B2.out⟩
theorem mayP_one {vs : List Vr} (h : vs.length = 1) (ht : (vs.getD 0 v0).tag = []) (hi : 0 < (vs.getD 0 v0).it.length) : mayP false vs = itemsB (vs.getD 0 v0).it 0 := by
  rw [mayP_no, decide_eq_true h, decide_eq_true ht]
  unfold itemsB
  rw [decide_eq_true (show 1 ≤ _ from hi), decide_eq_true (Nat.zero_le _)]
  rfl
theorem mayP_one_no {vs : List Vr} (h : vs.length ≠ 1 ∨ (vs.getD 0 v0).tag ≠ [] ∨ ¬ 0 < (vs.getD 0 v0).it.length) : mayP false vs = false := by
  rw [mayP_no]
  rcases h with h | h | h
  · rw [decide_eq_false h]; rfl
  · rw [decide_eq_false h]; simp
  · unfold itemsB
    rw [decide_eq_false (show ¬ 1 ≤ (vs.getD 0 v0).it.length by omega)]; simp
theorem okV_idx {vs : List Vr} {k : Nat} (hk : k < vs.length) : okV vs k ↔ isName (vs.getD k v0).tag = true ∧ ixI (idxT (vs.getD k v0).tag vs) = (k : Int) ∧ itemsB (vs.getD k v0).it 0 = true := by
  rw [okV_iff]
  constructor
  · rintro ⟨h1, h2, h3⟩
    refine ⟨h1, ?_, h2⟩
    rw [idx_some.2 ⟨hk, rfl, h3⟩]
    rfl
  · rintro ⟨h1, h2, h3⟩
    refine ⟨h1, h3, ?_⟩
    cases hx : idxT (vs.getD k v0).tag vs with
    | none => rw [hx] at h2; simp only [ixI] at h2; omega
    | some i =>
      rw [hx] at h2
      obtain rfl : i = k := by simp only [ixI] at h2; omega
      exact (idx_some.1 hx).2.2
end Go.Proofs.YtbkbhlbfkfnljaaGreatDoor
