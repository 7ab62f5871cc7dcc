/- The reference: characters between quotation marks. -/
import Derived.Test.YtldnmdadlgjbgaaGreatDoorRlb
set_option linter.unusedVariables false
set_option linter.unusedSimpArgs false
namespace Go.Proofs.YtldnmdadlgjbgaaGreatDoor
open Go Go.RowKit L8

def shorts : List Bs := [[42, 99], [42, 110], [42, 116], [42, 115], [42, 39], [42, 34], [42, 42]]
def stands : List Nat := [13, 10, 9, 32, 39, 34, 42]
theorem sh_val : ∀ i, i < 7 → escape (shorts.getD i []) = some (stands.getD i 0) := by decide
theorem eq_lit' (l k : Bs) : ((strOf l).toList == k) = decide (l = k) := by
  rw [toList_strOf]; by_cases h : l = k <;> simp [h]
def single (s : Bs) : Prop := ∃ c, s = [c] ∧ 32 ≤ c.toNat ∧ c.toNat ≤ 126 ∧ c ≠ 39 ∧ c ≠ 42
theorem esc_1 (c : UInt8) : escape [c] = if 32 ≤ c.toNat ∧ c.toNat ≤ 126 ∧ c ≠ 39 ∧ c ≠ 42 then some c.toNat else none := rfl
theorem esc_2 (b c : UInt8) : escape [b, c] = if b = 42 then short c else none := rfl
theorem esc_4 (b g x y : UInt8) : escape [b, g, x, y] = if b = 42 ∧ g = 35 then value 16 2 256 [x, y] else none := rfl
theorem esc_single {c : UInt8} (h : 32 ≤ c.toNat ∧ c.toNat ≤ 126 ∧ c ≠ 39 ∧ c ≠ 42) : escape [c] = some c.toNat := by rw [esc_1, if_pos h]
theorem esc_rest {s : Bs} (h1 : ¬ single s) (h : ∀ i, i < 7 → shorts.getD i [] ≠ s) : escape s = if s.length = 4 ∧ s.take 2 = [42, 35] then value 16 2 256 (s.drop 2) else none := by
  match s, h1, h with
  | [], _, _ => rfl
  | [c], h1, _ =>
    rw [if_neg (by simp), esc_1, if_neg (fun h => h1 ⟨c, rfl, h⟩)]
  | [b, c], _, h =>
    rw [if_neg (by simp), esc_2]
    by_cases hb : b = 42
    · rw [if_pos hb]
      subst hb
      unfold short
      have h0 := h 0 (by decide)
      have h1 := h 1 (by decide)
      have h2 := h 2 (by decide)
      have h3 := h 3 (by decide)
      have h4 := h 4 (by decide)
      have h5 := h 5 (by decide)
      have h6 := h 6 (by decide)
      rw [if_neg (fun e => h0 (by rw [e]; rfl)), if_neg (fun e => h1 (by rw [e]; rfl)), if_neg (fun e => h2 (by rw [e]; rfl)), if_neg (fun e => h3 (by rw [e]; rfl)), if_neg (fun e => h4 (by rw [e]; rfl)), if_neg (fun e => h5 (by rw [e]; rfl)), if_neg (fun e => h6 (by rw [e]; rfl))]
    · rw [if_neg hb]
  | [_, _, _], _, _ => rw [if_neg (by simp)]; rfl
  | [b, g, x, y], _, _ =>
    rw [esc_4]
    by_cases hb : b = 42 ∧ g = 35
    · rw [if_pos hb, if_pos ⟨rfl, by rw [hb.1, hb.2]; rfl⟩]
      rfl
    · rw [if_neg hb, if_neg]
      rintro ⟨_, e⟩
      injection e with e1 e2
      injection e2 with e2
      exact hb ⟨e1, e2⟩
  | _ :: _ :: _ :: _ :: _ :: _, _, _ => rw [if_neg (by simp)]; rfl
def EVR (o : Option Nat) (e : Ending) : Prop := match o with
  | some v => e = .returned (.tuple #[.int .i32 (v : Int), .bool true])
  | none => ∃ z : Int, e = .returned (.tuple #[.int .i32 z, .bool false])
def iC (l : List Nat) : List Value := l.map fun (n : Nat) => Value.int .i32 (n : Int)
theorem iC_at {l : List Nat} {j : Nat} (h : j < l.length) : (iC l)[j]? = some (.int .i32 ((l.getD j 0 : Nat) : Int)) := by simp [iC, h]
set_option maxRecDepth 100000 in
set_option maxHeartbeats 8000000 in
theorem Rescape_rest (s : Bs) (hl : s.length ≤ maxLen) (hs : ¬ single s) {B1 g32 g126 e39 e42 : Bool} {N : Nat} (h1 : ((s.length : Int) == 1) = B1) (hidx : B1 = true → ∀ W : World, (Instr.index 9 (.string (strOf s)) (.int .i64 0)).run Tryz.prog W = .ok (.int .u8 (N : Int)) W)
    (h2 : decide ((32 : Int) ≤ (N : Int)) = g32) (h3 : decide ((N : Int) ≤ 126) = g126) (h4 : ((strOf s).toList == [39]) = e39) (h5 : ((strOf s).toList == [42]) = e42) (hno : B1 = false ∨ (B1 = true ∧ g32 = false) ∨ (B1 = true ∧ g32 = true ∧ g126 = false) ∨ (B1 = true ∧ g32 = true ∧ g126 = true ∧ e39 = true) ∨ (B1 = true ∧ g32 = true ∧ g126 = true ∧ e39 = false ∧ e42 = true)) (w : World) :
    Calls Tryz.prog 71 #[.string (strOf s)] w fun e w' => EVR (escape s) e ∧ Below w.heap.size w w' := by
  have hsz := size_strOf s
  obtain ⟨n, hn⟩ : ∃ n, s.length = n := ⟨_, rfl⟩
  rw [hn] at hsz hl h1
  unfold maxLen at hl
  have HS := Lib.hid (show SS ((w.alloc (.cells (sC shorts).toArray 9)).alloc (.cells (iC stands).toArray 21)) (some ⟨w.heap.size, 0, none⟩) 7 shorts from
    OwnS.ss (B := 0) (n := 7) ⟨rfl, .inr ⟨w.heap.size, 7, _, rfl, Nat.zero_le _, (boxS_new w 9 (sC shorts).toArray).alloc _, Nat.le_refl _, by unfold maxLen; decide, rfl, rfl⟩⟩)
  have bi := boxS_new (w.alloc (.cells (sC shorts).toArray 9)) 21 (iC stands).toArray
  rw [World.size_alloc] at bi
  have HI := Lib.hid (fun (i : Nat) (h : i < 7) => show ((w.alloc (.cells (sC shorts).toArray 9)).alloc (.cells (iC stands).toArray 21)).cell? ⟨w.heap.size + 1, i, none⟩ = some (.int .i32 ((stands.getD i 0 : Nat) : Int)) from (bi.cell i).trans (by
    have := iC_at (l := stands) (j := i) h
    simpa using this))
  have HB := Lib.hid (bal (bal (b0 w) (.cells (sC shorts).toArray 9)) (.cells (iC stands).toArray 21))
  have HR := Lib.hid (fun h => esc_rest (s := s) hs h)
  have HH := Lib.hid (fun (i : Nat) (h : i < 7) (e : shorts.getD i [] = s) => show escape s = some (stands.getD i 0) from by rw [← e]; exact sh_val i h)
  have HM := Lib.hid hn
  have HEq := Lib.hid (fun (y : Bs) => eqS s y)
  have CT := Lib.hid (fun (h : 2 ≤ n) => And.intro (show ∀ W : World, (Instr.slice 9 (.string (strOf s)) none (some (.int .i64 2)) none).run Tryz.prog W = .ok (.string (strOf (s.take 2))) W from cut_to s 2 (by omega)) (And.intro (show ∀ W : World, (Instr.slice 9 (.string (strOf s)) (some (.int .i64 2)) none none).run Tryz.prog W = .ok (.string (strOf (s.drop 2))) W from cut_from s 2 (by omega)) (eq_lit' (s.take 2) [42, 35])))
  have CV := Lib.hid (fun (W : World) => show Calls Tryz.prog 55 #[.string (strOf (s.drop 2)), .int .i64 16, .int .i64 2, .int .i64 256] W (fun e w' => VR (value 16 2 256 (s.drop 2)) e ∧ W = w') from Rvalue_any 16 2 256 (.inr rfl) (by decide) (by decide) (s.drop 2) (by rw [List.length_drop]; unfold maxLen; omega) W)
  have HV := Lib.hid (fun (v : Nat) (h : value 16 2 256 (s.drop 2) = some v) => value_lt h)
  clear bi hn hs
  generalize escape s = o at *
  have fin : ∀ (P : Prop), P → P := fun _ h => h
  rcases hno with rfl | ⟨rfl, rfl⟩ | ⟨rfl, rfl, rfl⟩ | ⟨rfl, rfl, rfl, rfl⟩ | ⟨rfl, rfl, rfl, rfl, rfl⟩
  all_goals (
    try (have hidx := hidx rfl)
    go_enter Tryz.func71, Tryz.ntmps71
    go_wp2
    obtain ⟨V, hV⟩ : ∃ V, (w.alloc (.cells (sC shorts).toArray 9)).alloc (.cells (iC stands).toArray 21) = V := ⟨_, rfl⟩
    have HS2 := HS.out
    have HI2 := HI.out
    have HB2 := HB.out
    rw [hV] at HS2 HI2 HB2
    have K1 := Lib.hid (And.intro HS2 (And.intro HI2 HB2))
    clear HS2 HI2 HB2 HS HI HB
    have hV2 : (w.alloc (.cells #[.string ⟨#[42, 99]⟩, .string ⟨#[42, 110]⟩, .string ⟨#[42, 116]⟩, .string ⟨#[42, 115]⟩, .string ⟨#[42, 39]⟩, .string ⟨#[42, 34]⟩, .string ⟨#[42, 42]⟩] 9)).alloc (.cells #[.int .i32 13, .int .i32 10, .int .i32 9, .int .i32 32, .int .i32 39, .int .i32 34, .int .i32 42] 21) = V := hV
    rw [hV2]
    clear hV hV2
    go_loopw [6] (fun i wr => ∃ k : Nat, k ≤ 7 ∧ i = .int .i64 k ∧ V = wr ∧ Hid (∀ j, j < k → shorts.getD j [] ≠ s)) (fun i _ => 7 - (intOf i).toNat)
    case atStart => exact ⟨0, by omega, rfl, rfl, Lib.hid (fun j h => absurd h (by omega))⟩
    case round =>
      obtain ⟨k, hk, rfl, rfl, H⟩ := hrel
      have hk0 : (0 : Int) ≤ (k : Int) := by omega
      by_cases hk1 : (k : Int) < 7
      · obtain ⟨ad, ead, c0⟩ := K1.out.1.rd k (by have : shorts.length = 7 := rfl; omega)
        cases ead
        rw [add_plain, Nat.zero_add] at c0
        have c1 := K1.out.2.1 k (by omega)
        have he := HEq.out (shorts.getD k [])
        have HHk := Lib.hid (HH.out k (by omega))
        have HN : Hid (shorts.getD k [] ≠ s → ∀ j, j < k + 1 → shorts.getD j [] ≠ s) := Lib.hid fun h j hj => by
          by_cases h2 : j < k
          · exact H.out j h2
          · rw [show j = k by omega]; exact h
        generalize shorts.getD k [] = y at *
        generalize stands.getD k 0 = z at *
        by_cases hy : y = s
        · have HE := Lib.hid (HHk.out hy)
          rw [decide_eq_true hy.symm] at he
          clear hy HHk HN H
          generalize strOf y = Y at *
          go_wp2
          go_ret2
          rw [HE.out]
          exact ⟨rfl, K1.out.2.2⟩
        · have HE := Lib.hid (HN.out hy)
          rw [decide_eq_false (fun e => hy e.symm)] at he
          clear hy HHk HN H
          generalize strOf y = Y at *
          go_wp2
          go_roundw
          case rel => exact ⟨k + 1, by omega, by go_num, trivial, HE⟩
          case measure => simp [intOf]; omega
      · obtain rfl : k = 7 := by omega
        have hr := HR.out H.out
        rw [HM.out] at hr
        clear H
        by_cases h4' : (n : Int) = 4
        · have q4 : ((n : Int) == 4) = true := by rw [h4']; rfl
          obtain ⟨t1, t2, t3⟩ := CT.out (by omega)
          have h24 : (2 : Int) ≤ (n : Int) := by omega
          have H4 := Lib.hid h4'
          clear h4'
          by_cases hd : s.take 2 = [42, 35]
          · rw [if_pos ⟨by have := H4.out; omega, hd⟩] at hr
            rw [decide_eq_true hd] at t3
            have HE := Lib.hid hr
            have HVv := Lib.hid (fun v (h : o = some v) => HV.out v (hr ▸ h))
            rw [← hr] at CV
            clear hr hd HV
            generalize strOf (s.take 2) = T1 at *
            generalize strOf (s.drop 2) = T2 at *
            cases ho : o with
            | some v =>
              have hv := HVv.out v ho
              have s1 : IntKind.i32.wrap (v : Int) = (v : Int) := by
                unfold IntKind.wrap; simp [IntKind.bits, IntKind.signed]; omega
              rw [ho] at CV
              go_wp2_with (go_at_call 55; (with_reducible refine (CV.out _).mono ?_); rintro e w3 ⟨rfl, rfl⟩)
              go_ret2
              rw [ho]
              exact ⟨rfl, K1.out.2.2⟩
            | none =>
              rw [ho] at CV
              go_wp2_with (go_at_call 55; (with_reducible refine (CV.out _).mono ?_); rintro e w3 ⟨⟨z, rfl⟩, rfl⟩)
              go_ret2
              rw [ho]
              exact ⟨⟨_, rfl⟩, K1.out.2.2⟩
          · rw [if_neg (fun h => hd h.2)] at hr
            rw [decide_eq_false hd] at t3
            have HE := Lib.hid hr
            clear hr hd
            generalize strOf (s.take 2) = T1 at *
            go_wp2
            go_ret2
            rw [HE.out]
            exact ⟨⟨_, rfl⟩, K1.out.2.2⟩
        · have q4 : ((n : Int) == 4) = false := by simpa using h4'
          rw [if_neg (fun h => h4' (by omega))] at hr
          have HE := Lib.hid hr
          clear hr
          go_wp2
          go_ret2
          rw [HE.out]
          exact ⟨⟨_, rfl⟩, K1.out.2.2⟩)
theorem Rescape_any (s : Bs) (hl : s.length ≤ maxLen) (w : World) : Calls Tryz.prog 71 #[.string (strOf s)] w fun e w' => EVR (escape s) e ∧ Below w.heap.size w w' := by
  by_cases hs : single s
  · obtain ⟨c, rfl, h1, h2, h3, h4⟩ := hs
    rw [esc_single ⟨h1, h2, h3, h4⟩]
    have hsz := size_strOf [c]
    have hi : ∀ W : World, (Instr.index 9 (.string (strOf [c])) (.int .i64 0)).run Tryz.prog W = .ok (.int .u8 (c.toNat : Int)) W := index_l [c] 0 (by simp)
    have e1 := eq_lit' [c] [39]
    have e2 := eq_lit' [c] [42]
    rw [decide_eq_false (by simpa using h3)] at e1
    rw [decide_eq_false (by simpa using h4)] at e2
    have g1 : (32 : Int) ≤ (c.toNat : Int) := by omega
    have g2 : (c.toNat : Int) ≤ 126 := by omega
    have hsz' : (strOf [c]).size = 1 := hsz
    have s1 : IntKind.i32.wrap (c.toNat : Int) = (c.toNat : Int) := by
      unfold IntKind.wrap; simp [IntKind.bits, IntKind.signed]; omega
    clear hl hsz h1 h2 h3 h4
    generalize strOf [c] = S at *
    generalize c.toNat = N at *
    go_enter Tryz.func71, Tryz.ntmps71
    go_wp2
    go_ret2
    exact ⟨rfl, b0 _⟩
  · by_cases h1 : s.length = 1
    · obtain ⟨c, rfl⟩ : ∃ c, s = [c] := by
        match s, h1 with
        | [c], _ => exact ⟨c, rfl⟩
      have e1 := eq_lit' [c] [39]
      have e2 := eq_lit' [c] [42]
      refine Rescape_rest [c] hl hs (N := c.toNat) (B1 := true) rfl (fun _ => index_l [c] 0 (by simp)) rfl rfl e1 e2 ?_ w
      by_cases g1 : (32 : Int) ≤ (c.toNat : Int)
      · by_cases g2 : (c.toNat : Int) ≤ 126
        · by_cases g3 : c = 39
          · exact .inr (.inr (.inr (.inl ⟨rfl, decide_eq_true g1, decide_eq_true g2, decide_eq_true (by rw [g3])⟩)))
          · by_cases g4 : c = 42
            · exact .inr (.inr (.inr (.inr ⟨rfl, decide_eq_true g1, decide_eq_true g2, decide_eq_false (by simpa using g3), decide_eq_true (by rw [g4])⟩)))
            · exact absurd ⟨c, rfl, by omega, by omega, g3, g4⟩ hs
        · exact .inr (.inr (.inl ⟨rfl, decide_eq_true g1, decide_eq_false g2⟩))
      · exact .inr (.inl ⟨rfl, decide_eq_false g1⟩)
    · exact Rescape_rest s hl hs (N := 0) (B1 := false) (by simp; omega) (fun h => by cases h) rfl rfl rfl rfl (.inl rfl) w
end Go.Proofs.YtldnmdadlgjbgaaGreatDoor
