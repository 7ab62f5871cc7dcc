/- The law on a number of several words that is multiplied by a word and divided again returns true for all numbers. -/
import Derived.Test.YtikfbooihacjfaaLawsC
namespace Go.Proofs.Ytikfbooihacjfaa
open Go Go.RowKit

theorem word_info : (Try.prog.info? 21).map (fun i => (i.zero, i.size, i.bytes)) = some (some (.int .i32 0), 1, 4) := by kernel_rfl
/-- A slice of words that came in: nil, or a row of cap cells that hold the numbers of zs. -/
def Came (w : World) (a : Option Addr) (len cap : Nat) (zs : List Int) : Prop :=
  (a = none ∧ len = 0 ∧ cap = 0 ∧ zs = []) ∨
  ∃ x, a = some x ∧ len ≤ cap ∧ cap ≤ maxLen ∧ zs.length = cap ∧ (∀ i, i < zs.length → w.cell? (x.add i) = some (.int .i32 (zs.getD i 0))) ∧ ∀ n ∈ zs, (Lit.int .i32 n).wf = true
theorem lt_of_cell {w : World} {a : Addr} {v : Value} (h : w.cell? a = some v) : a.block < w.heap.size := by
  rcases Nat.lt_or_ge a.block w.heap.size with h' | h'
  · exact h'
  · unfold World.cell? at h
    rw [Array.getElem?_eq_none h'] at h
    simp at h
theorem add_block (a : Addr) (n : Nat) : (a.add n).block = a.block := by unfold Addr.add; split <;> rfl
/-- Its words can be read as long as nothing old is written. -/
def Words (w : World) (a : Option Addr) (len cap : Nat) (f : Nat → Int) : Prop :=
  len ≤ cap ∧ cap ≤ maxLen ∧ (∀ k, isW (f k)) ∧ ∀ k, k < len → ∃ x, a = some x ∧ ∀ w', Below w.heap.size w w' → w'.cell? (x.add k) = some (.int .i32 (f k))
theorem Came.words {w : World} {a : Option Addr} {len cap : Nat} {zs : List Int} (h : Came w a len cap zs) : ∃ f, Words w a len cap f := by
  rcases h with ⟨rfl, rfl, rfl, rfl⟩ | ⟨x, rfl, hl, hm, hz, hc, hw⟩
  · exact ⟨fun _ => 0, Nat.le_refl _, by unfold maxLen; omega, fun _ => (show isW 0 by unfold isW; omega), fun k hk => by omega⟩
  · refine ⟨fun k => zs.getD k 0, hl, hm, fun k => ?_, fun k hk => ⟨x, rfl, fun w' hb => ?_⟩⟩
    · show isW (zs.getD k 0)
      by_cases hk : k < zs.length
      · have e : zs.getD k 0 = zs[k] := by simp [List.getD, hk]
        rw [e]
        exact isW_of_wf (hw _ (List.getElem_mem hk))
      · have e : zs.getD k 0 = 0 := by simp [List.getD, List.getElem?_eq_none (show zs.length ≤ k by omega)]
        rw [e]
        unfold isW; omega
    · have hk' := hc k (by omega)
      have hlt := lt_of_cell hk'
      rw [← hk']
      exact hb.cell hlt
/-- The carry into word k of the product, and the product's word k. -/
def cw (f : Nat → Int) (d c : Int) : Nat → Int
  | 0 => c
  | k + 1 => hiW (U (f k) * U d + U (cw f d c k))
def yw (f : Nat → Int) (d c : Int) (k : Nat) : Int := wd (U (f k) * U d + U (cw f d c k))
theorem cw_isW (f : Nat → Int) (d c : Int) (hc : isW c) : ∀ k, isW (cw f d c k)
  | 0 => hc
  | _ + 1 => isW_hiW _
theorem cw_lt (f : Nat → Int) (d c : Int) (h : U c < U d) : ∀ k, U (cw f d c k) < U d
  | 0 => h
  | k + 1 => by
    have ih := cw_lt f d c h k
    have hs := mulD_lt (f k) d (cw f d c k)
    show U (hiW (U (f k) * U d + U (cw f d c k))) < U d
    rw [U_hiW hs]
    refine (Nat.div_lt_iff_lt_mul (by omega)).2 ?_
    have h1 := U_lt (f k)
    have h2 : (U (f k) + 1) * U d ≤ 4294967296 * U d := Nat.mul_le_mul_right _ (by omega)
    rw [Nat.add_mul] at h2
    rw [Nat.mul_comm (U d)]
    omega
theorem step_mul (f : Nat → Int) (d c : Int) (k : Nat) (w : World) : Calls Try.prog 24 #[.int .i32 (f k), .int .i32 d, .int .i32 (cw f d c k)] w fun e w' => e = .returned (.tuple #[.int .i32 (yw f d c k), .int .i32 (cw f d c (k + 1))]) ∧ Below w.heap.size w w' :=
  Mul_any (f k) d (cw f d c k) w
theorem step_div (f : Nat → Int) (hf : ∀ k, isW (f k)) (d c : Int) (hc : isW c) (h : U c < U d) (k : Nat) (w : World) : Calls Try.prog 26 #[.int .i32 (cw f d c (k + 1)), .int .i32 (yw f d c k), .int .i32 d] w fun e w' => e = .returned (.tuple #[.int .i32 (f k), .int .i32 (cw f d c k), .bool false]) ∧ Below w.heap.size w w' :=
  Div_Mul (f k) d (cw f d c k) (hf k) (cw_isW f d c hc k) (cw_lt f d c h k) w
/-- The words of the product that were collected. -/
def yl (f : Nat → Int) (d c : Int) (k : Nat) : List Value := (List.range k).map fun j => .int .i32 (yw f d c j)
theorem yl_succ (f : Nat → Int) (d c : Int) (k : Nat) : yl f d c (k + 1) = yl f d c k ++ [.int .i32 (yw f d c k)] := by simp [yl, List.range_succ]
theorem yl_at (f : Nat → Int) (d c : Int) (k j : Nat) (h : j < k) : (yl f d c k)[j]? = some (.int .i32 (yw f d c j)) := by simp [yl, h]
def OwnY (w : World) (B : Nat) (v : Value) (f : Nat → Int) (d c : Int) (k : Nat) : Prop := w.ownsRow B 21 1 v k (yl f d c k)
theorem ownY_step {w wr w' : World} {B k : Nat} {f : Nat → Int} {d c : Int} {v v' : Value} {o : Obj} (hB : B ≤ w.heap.size) (hown : OwnY wr B v f d c k) (hbel : Below B w wr) (h : w'.ownsRow B 21 1 v' (k + 1) (yl f d c k ++ [Value.int .i32 (yw f d c k)]))
    (hg : (wr.alloc o).grownBy w' v.ownBlock) : OwnY w' B v' f d c (k + 1) ∧ Below B w w' := by
  refine ⟨?_, ?_⟩
  · unfold OwnY; rw [yl_succ]; exact h
  · exact (hbel.alloc (Nat.le_trans hB hbel.size) o).grown hg (Nat.le_trans hB (Nat.le_trans hbel.size (by simp))) (fun g hk => (World.ownsRow.lt hown g hk).1)
theorem OwnY.below {w w' : World} {B k : Nat} {f : Nat → Int} {d c : Int} {v : Value} (h : OwnY w B v f d c k) (hb : Below w.heap.size w w') : OwnY w' B v f d c k := by
  refine World.ownsRow.kept (row := none) h ⟨hb.os, hb.tape, hb.output, hb.size, fun i hi _ => hb.block i hi⟩ ?_
  cases hv : v.ownBlock with
  | none => exact .inl rfl
  | some g => exact .inr (by simp)
theorem OwnY.shape {w : World} {B k : Nat} {f : Nat → Int} {d c : Int} {v : Value} (h : OwnY w B v f d c k) : ∃ ay cy, v = .slice ay k cy ∧ ∀ j, j < k → ∃ g, ay = some ⟨g, 0, none⟩ ∧ ∀ w', Below w.heap.size w w' → w'.cell? ⟨g, j, none⟩ = some (.int .i32 (yw f d c j)) := by
  rcases h.2 with ⟨rfl, rfl⟩ | ⟨g, cap, cur, hv, hr⟩
  · exact ⟨none, 0, rfl, fun j hj => by omega⟩
  · subst hv
    refine ⟨_, _, rfl, fun j hj => ⟨g, rfl, fun w' hb => ?_⟩⟩
    have e := World.ownsRow.cellAt h j (by omega)
    rw [yl_at _ _ _ _ _ hj] at e
    have hlt := lt_of_cell e
    rw [← e]
    exact hb.cell hlt
theorem cw_zero (f : Nat → Int) (d c : Int) : cw f d c 0 = c := rfl
set_option maxRecDepth 100000 in
set_option maxHeartbeats 8000000 in
theorem whole_at (a : Option Addr) (len cap : Nat) (f : Nat → Int) (d c : Int) (w : World) (hX : Words w a len cap f) (hlen : len ≤ 40) (hd : (d == 0) = false) (hc : isW c) (hlt : U c < U d) (c0 : Int) (hc0 : (c = c0) ∨ (¬ U c0 < U d ∧ wrap32 (c0 % 4294967296 % (d % 4294967296)) = c)) :
    Calls Try.prog 8 #[.slice a len cap, .int .i32 d, .int .i32 c0] w fun e w' => e = .returned (.bool true) ∧ Below w.heap.size w w' := by
  obtain ⟨i0, hi0, hz0, hz1, hz2⟩ := info_parts word_info
  obtain ⟨hlc, hcm, hf, hcells⟩ := hX
  have BY := Lib.hid (below_yes hlt)
  have CM := Lib.hid (step_mul f d c)
  have CD := Lib.hid (step_div f hf d c hc hlt)
  have HX := Lib.hid hcells
  have hd1 : 1 ≤ d % 4294967296 := by have := U_cast d; omega
  clear hcells hf hc hlt
  have hl' : ¬ ((40 : Int) < (len : Int)) := by omega
  unfold maxLen at hcm
  obtain ⟨bo, B1, E1⟩ : ∃ bo, Hid (∀ w : World, Calls Try.prog 34 #[.int .i32 c0, .int .i32 d] w fun e w' => e = .returned (.bool bo) ∧ w = w') ∧ ((bo = true ∧ c = c0) ∨ (bo = false ∧ wrap32 (c0 % 4294967296 % (d % 4294967296)) = c)) := by
    rcases hc0 with rfl | ⟨h1, h2⟩
    · exact ⟨true, BY, .inl ⟨rfl, rfl⟩⟩
    · exact ⟨false, Lib.hid (below_no h1), .inr ⟨rfl, h2⟩⟩
  clear hc0 BY
  rcases E1 with ⟨rfl, rfl⟩ | ⟨rfl, E1⟩
  all_goals
    go_enter Try.func8, Try.ntmps8
    go_wp2_with (first
      | (go_at_call 34; (with_reducible refine (B1.out _).mono ?_); rintro e w' ⟨rfl, rfl⟩)
      | (at_make; refine wpList_make_own _ rfl _ _ 35 rfl w.heap.size 21 i0 (.int .i32 0) 1 Try.underlying35 hi0 hz0 hz1 .i64 .i64 _ (len + 1) rfl rfl (by omega) (by rw [hz2]; omega) (by unfold maxLen; omega) (Nat.le_refl _) ?_; intro w0 hown0 hgrow0))
    have hown1 : OwnY w0 w.heap.size (.slice (some ⟨w.heap.size, 0, none⟩) 0 (len + 1)) f d c 0 := hown0
    have hbel1 : Below w.heap.size w w0 := (Below.refl _ _).grown hgrow0 (Nat.le_refl _) (by simp)
    clear hown0 hgrow0
    go_loopw [7, 8, 43] (fun y q i wr => ∃ k : Nat, k ≤ len ∧ i = .int .i64 k ∧ q = .int .i32 (cw f d c k) ∧ OwnY wr w.heap.size y f d c k ∧ Below w.heap.size w wr) (fun _ _ i _ => len - (intOf i).toNat)
    case atStart => exact ⟨0, Nat.zero_le _, rfl, rfl, hown1, hbel1⟩
    case round =>
      obtain ⟨k, hk, rfl, rfl, hown, hbel⟩ := hrel
      clear hown1 hbel1
      by_cases hlt : (k : Int) < len
      · obtain ⟨x, rfl, hcell⟩ := HX.out k (by omega)
        have e1 := hcell wr hbel
        have hk0 : (0 : Int) ≤ (k : Int) := by omega
        have hcell' := Lib.hid hcell
        clear hcell
        go_wp2_with (first
          | (go_at_call 24; (with_reducible refine (CM.out k _).mono ?_); rintro e w1 ⟨rfl, b1⟩; have hown2 := hown.below b1; have hbel2 := hbel.trans (b1.mono hbel.size); clear hown hbel e1)
          | (at_builtin; refine wpList_append_own _ rfl _ _ 35 rfl w.heap.size 21 i0 (.int .i32 0) 1 4 Try.underlying35 hi0 hz0 hz1 hz2 rfl (by decide) _ _ _ rfl (World.ownsRow.alloc hown2 _) ⟨w1.heap.size, 0, none⟩ 1 1 [.int .i32 (yw f d c k)] rfl rfl (World.news_of_block (heap_alloc_new w1 _)) (by intro u hu; simp at hu; subst hu; rfl) (by unfold maxLen; omega) (by omega) (by have := hbel2.size; simp; omega) ?_; intro v' w2 hown3 hgrow _))
        have R := ownY_step (Nat.le_refl _) hown2 hbel2 hown3 hgrow
        clear hown2 hgrow hown3 hbel2
        go_wp2
        go_roundw
        case rel => exact ⟨k + 1, by omega, by go_num, rfl, R.1, R.2⟩
        case measure => simp [intOf]; omega
      · obtain rfl : len = k := by omega
        generalize wr = W1 at *
        obtain ⟨ay, cy, rfl, hY⟩ := hown.shape
        have HY := Lib.hid hY
        have HB := Lib.hid hbel
        have hsz := hbel.size
        clear hown hY hbel
        go_wp2
        go_loopw [13, 14] (fun r i wr => ∃ k : Nat, k ≤ len ∧ i = .int .i64 ((k : Int) - 1) ∧ r = .int .i32 (cw f d c k) ∧ Below W1.heap.size W1 wr) (fun _ i _ => (intOf i + 1).toNat)
        case atStart => exact ⟨len, Nat.le_refl _, rfl, rfl, Below.refl _ _⟩
        case round =>
          obtain ⟨k, hk2, rfl, rfl, hb2⟩ := hrel
          rcases k with _ | j
          · have hneg : ¬ (0 : Int) ≤ ((0 : Nat) : Int) - 1 := by omega
            rw [cw_zero]
            go_wp2_with (go_at_call 19; (with_reducible refine (awake_any _).mono ?_); rintro e w3 ⟨rfl, b3⟩)
            go_ret
            exact ⟨rfl, blw (HB.out.trans (hb2.mono hsz)) b3⟩
          · obtain ⟨x, rfl, hcell⟩ := HX.out j (by omega)
            obtain ⟨g, rfl, hycell⟩ := HY.out j (by omega)
            have e2 := hycell wr hb2
            have e1 := hcell wr (HB.out.trans (hb2.mono hsz))
            have H1 := Lib.hid hcell
            have H2 := Lib.hid hycell
            clear hcell hycell
            rw [show (((j + 1 : Nat) : Int) - 1) = (j : Int) by omega]
            have hj : (j : Int) < len := by omega
            have hj0 : (0 : Int) ≤ (j : Int) := by omega
            go_wp2_with (go_at_call 26; (with_reducible refine (CD.out j _).mono ?_); rintro e w4 ⟨rfl, b4⟩; have e5 := H1.out w4 ((HB.out.trans (hb2.mono hsz)).trans (b4.mono (Nat.le_trans hsz hb2.size))); clear e1)
            go_roundw
            case rel => exact ⟨j, by omega, rfl, rfl, hb2.trans (b4.mono hb2.size)⟩
            case measure => simp [intOf]
theorem whole_long (a : Option Addr) (len cap : Nat) (d c : Int) (hlen : 40 < len) (w : World) :
    Calls Try.prog 8 #[.slice a len cap, .int .i32 d, .int .i32 c] w fun e w' => e = .returned (.bool true) ∧ Below w.heap.size w w' := by
  have hl : (40 : Int) < (len : Int) := by omega
  go_enter Try.func8, Try.ntmps8
  go_wp2_with (go_at_call 19; (with_reducible refine (awake_any _).mono ?_); rintro e w3 ⟨rfl, b3⟩)
  go_ret
  exact ⟨rfl, b3⟩
theorem whole_zero (a : Option Addr) (len cap : Nat) (c : Int) (hlen : ¬ 40 < len) (w : World) :
    Calls Try.prog 8 #[.slice a len cap, .int .i32 0, .int .i32 c] w fun e w' => e = .returned (.bool true) ∧ Below w.heap.size w w' := by
  have hl : ¬ (40 : Int) < (len : Int) := by omega
  go_enter Try.func8, Try.ntmps8
  go_wp2_with (go_at_call 19; (with_reducible refine (awake_any _).mono ?_); rintro e w3 ⟨rfl, b3⟩)
  go_ret
  exact ⟨rfl, b3⟩
theorem U_zero {d : Int} (hd : isW d) (h : U d = 0) : d = 0 := by unfold isW at hd; unfold U at h; omega
theorem walkLongWhole (a0 : Option Addr) (len0 cap0 : Nat) (z0 : List Int) (a1 a2 : Int) (w : World) (w0 : Came w a0 len0 cap0 z0) (w1 : (Lit.int .i32 a1).wf = true) (w2 : (Lit.int .i32 a2).wf = true) :
    Calls Try.prog 8 #[.slice a0 len0 cap0, .int .i32 a1, .int .i32 a2] w fun e w' => e = .returned (.bool true) ∧ Below w.heap.size w w' := by
  have hd := isW_of_wf w1
  have hc := isW_of_wf w2
  obtain ⟨f, hX⟩ := w0.words
  by_cases hlen : 40 < len0
  · exact whole_long a0 len0 cap0 a1 a2 hlen w
  · by_cases h0 : a1 = 0
    · subst h0
      exact whole_zero a0 len0 cap0 a2 hlen w
    · have hd0 : (a1 == 0) = false := by simpa using h0
      by_cases hlt : U a2 < U a1
      · exact whole_at a0 len0 cap0 f a1 a2 w hX (by omega) hd0 hc hlt a2 (.inl rfl)
      · have hp : 0 < U a1 := by
          rcases Nat.eq_zero_or_pos (U a1) with h | h
          · exact absurd (U_zero hd h) h0
          · exact h
        have hr := Nat.mod_lt (U a2) hp
        have hl := U_lt a1
        have e : U (wd (U a2 % U a1)) = U a2 % U a1 := by rw [U_wd, Nat.mod_eq_of_lt (by omega)]
        refine whole_at a0 len0 cap0 f a1 (wd (U a2 % U a1)) w hX (by omega) hd0 (isW_wd _) (by rw [e]; exact hr) a2 (.inr ⟨hlt, ?_⟩)
        unfold wd
        rw [← U_cast, ← U_cast]
        congr 1
end Go.Proofs.Ytikfbooihacjfaa
