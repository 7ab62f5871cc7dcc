/- The law on numbers of several words that are added and subtracted word by word returns true for all numbers. -/
import Derived.Test.YtikfbooihacjfaaLawsE
import Derived.Laws.CopyOwn
import Derived.Deep.RegionHeld3
import Derived.Deep.DrawnRows
namespace Go.Proofs.Ytikfbooihacjfaa
open Go Go.RowKit

/-- The carry into word k. -/
def cr (f g : Nat → Int) : Nat → Nat
  | 0 => 0
  | k + 1 => (U (f k) + U (g k) + cr f g k) / 4294967296
theorem cr_le (f g : Nat → Int) : ∀ k, cr f g k ≤ 1
  | 0 => by unfold cr; omega
  | k + 1 => by
    have ih := cr_le f g k
    have h1 := U_lt (f k)
    have h2 := U_lt (g k)
    unfold cr
    omega
def sm (f g : Nat → Int) (k : Nat) : Int := wd (U (f k) + U (g k) + cr f g k)
theorem cb_nat {c : Nat} (h : c ≤ 1) : cb (c : Int) = c := by unfold cb U; omega
theorem step_sum (f g : Nat → Int) (k : Nat) (w : World) : Calls Try.prog 20 #[.int .i32 (f k), .int .i32 (g k), .int .i32 (cr f g k : Int)] w fun e w' => e = .returned (.tuple #[.int .i32 (sm f g k), .int .i32 (cr f g (k + 1) : Int)]) ∧ Below w.heap.size w w' := by
  have c := Sum_any (f k) (g k) (cr f g k : Int) w
  rw [cb_nat (cr_le f g k)] at c
  exact c
theorem step_sum' (f g : Nat → Int) (k : Nat) (w : World) : Calls Try.prog 20 #[.int .i32 (g k), .int .i32 (f k), .int .i32 (cr f g k : Int)] w fun e w' => e = .returned (.tuple #[.int .i32 (sm f g k), .int .i32 (cr f g (k + 1) : Int)]) ∧ Below w.heap.size w w' := by
  have c := Sum_any (g k) (f k) (cr f g k : Int) w
  rw [cb_nat (cr_le f g k), Nat.add_comm (U (g k))] at c
  exact c
theorem step_diff (f g : Nat → Int) (hf : ∀ k, isW (f k)) (k : Nat) (w : World) : Calls Try.prog 22 #[.int .i32 (sm f g k), .int .i32 (g k), .int .i32 (cr f g k : Int)] w fun e w' => e = .returned (.tuple #[.int .i32 (f k), .int .i32 (cr f g (k + 1) : Int)]) ∧ Below w.heap.size w w' := by
  have h1 := U_lt (f k)
  have h2 := U_lt (g k)
  have h3 := cr_le f g k
  refine at_ (Diff_any (sm f g k) (g k) (cr f g k : Int) w) (ret_ii ?_ ?_)
  · have e : wrap32 (dif (sm f g k) (g k) (cr f g k : Int)) = wd (U (f k)) := by
      unfold dif sm
      rw [cb_nat h3, U_wd]
      unfold wd wrap32
      omega
    rw [e, wd_U (hf k)]
  · unfold bor dif sm
    rw [cb_nat h3, U_wd]
    show _ = (((U (f k) + U (g k) + cr f g k) / 4294967296 : Nat) : Int)
    split <;> omega
/-- The words of a number, extended by zero words. -/
def ext0 (f : Nat → Int) (len k : Nat) : Int := if k < len then f k else 0
theorem ext0_isW (f : Nat → Int) (hf : ∀ k, isW (f k)) (len k : Nat) : isW (ext0 f len k) := by
  unfold ext0
  split
  · exact hf k
  · unfold isW; omega
/-- A copy into a row of the call's own: that row alone has turned. -/
theorem copy_kept {P : Program} {w : World} {ops : Array Oper} {rest : List Oper} {o : Oper} {a : Act} {Q : Exit → Act → World → Prop} (hgd : o.guard = none) (d s : Operand) (T : TypeId)
    (ho : o.op = .call { callee := .builtin .copy, args := #[d, s], argTypes := #[T, T] }) (elem : TypeId) (hu : P.underlying T = some (.slice elem)) (hsz : (P.info? elem).map (·.size) = some 1)
    (g n len cap : Nat) (sp : Option Addr) (hd : a.eval d = .slice (some ⟨g, 0, none⟩) n n) (hs : a.eval s = .slice sp len cap) (hle : len ≤ n) (t : TypeId) (hg : w.heap[g]? = some (.cells (List.replicate n (Value.int .i32 0)).toArray t (0, 0)))
    (f : Nat → Int) (hsrc : ∀ k, k < len → ∃ ad, sp = some ad ∧ w.cell? (ad.add k) = some (.int .i32 (f k)))
    (h : ∀ w', (w'.heap[g]? = some (.cells ((List.range n).map fun k => Value.int .i32 (ext0 f len k)).toArray t (0, 0))) → w.grownBy w' (some g) → wpList P ops Q rest (a.put o.dst (goInt len)) w') : wpList P ops Q (o :: rest) a w := by
  have hcs : ∀ L : List Value, L = ((List.range len).map fun k => Value.int .i32 (f k)) ++ (List.replicate n (Value.int .i32 0)).drop len → L = (List.range n).map fun k => Value.int .i32 (ext0 f len k) := by
    rintro L rfl
    apply List.ext_getElem?
    intro j
    by_cases hj : j < len
    · rw [List.getElem?_append_left (by simpa using hj)]
      have : j < n := by omega
      simp [hj, this, ext0]
    · rw [List.getElem?_append_right (by simp; omega)]
      by_cases hn : j < n
      · have h2 : j - len < n - len := by omega
        simp [hn, hj, ext0, h2]
      · rw [List.getElem?_eq_none (by simp; omega), List.getElem?_eq_none (by simp; omega)]
  rcases Nat.eq_zero_or_pos len with h0 | h0
  · subst h0
    refine wpList_copy_nothing hgd d s T T ho elem hu hsz (some ⟨g, 0, none⟩) sp n n 0 cap hd hs (by simp) ?_
    refine h w ?_ (World.grownBy.refl w _)
    rw [hg, ← hcs _ rfl]
    simp
  · obtain ⟨ad, rfl, _⟩ := hsrc 0 h0
    have hl : ((List.range len).map fun k => Value.int .i32 (f k)).length = len := by simp
    refine wpList_copy_own hgd d s T T ho elem hu hsz g 0 n n ad len cap hd hs (List.replicate n (Value.int .i32 0)).toArray t hg ((List.range len).map fun k => Value.int .i32 (f k)) (by rw [hl]; exact (Nat.min_eq_left hle).symm) ?_ (by simpa using hle) ?_ ?_
    · intro j v hj
      by_cases hjl : j < len
      · obtain ⟨ad', e, hc⟩ := hsrc j hjl
        cases e
        simp [hjl] at hj
        rw [hc, hj]
      · rw [List.getElem?_eq_none (by simp; omega)] at hj; cases hj
    · intro v hv
      simp only [List.mem_map] at hv
      obtain ⟨i, _, rfl⟩ := hv
      rfl
    · rw [hl]
      refine h _ ?_ ⟨rfl, rfl, rfl, by simp [World.setRow], fun k _ hk => setRow_other w g k _ (fun e => hk (by rw [e]))⟩
      have := setRow_heap w g _ (List.take 0 (List.replicate n (Value.int .i32 0)).toArray.toList ++ (((List.range len).map fun k => Value.int .i32 (f k)) ++ List.drop (0 + len) (List.replicate n (Value.int .i32 0)).toArray.toList)).toArray t _ hg
      rw [this]
      congr 3
      refine hcs _ ?_
      simp
theorem run_zeros (n : Nat) (hn : n ≤ 40) : ∀ w : World, (Instr.makeSlice 35 (.int .i64 (n : Int)) (.int .i64 (n : Int))).run Try.prog w = .ok (.slice (some ⟨w.heap.size, 0, none⟩) n n) (w.alloc (.cells (List.replicate n (Value.int .i32 0)).toArray 21)) := fun w => by
  obtain ⟨i0, hi0, hz0, hz1, hz2⟩ := info_parts word_info
  have h := run_make (P := Try.prog) w 35 21 i0 (.int .i32 0) Try.underlying35 hi0 hz0 .i64 .i64 (n : Int) (n : Int) (by omega) (by omega) (by rw [hz2]; omega) (by omega)
  rw [hz1, Int.toNat_natCast, Nat.mul_one] at h
  rw [h]
  congr 3
  have e := toList_madeCells_one (Value.int .i32 0) n
  rw [← e]
  rfl
theorem cells_of_words {w w' : World} {g n len : Nat} {f : Nat → Int} (h : w.heap[g]? = some (.cells ((List.range n).map fun k => Value.int .i32 (ext0 f len k)).toArray 21 (0, 0))) (hb : Below w.heap.size w w') (k : Nat) (hk : k < n) : w'.cell? ⟨g, k, none⟩ = some (.int .i32 (ext0 f len k)) := by
  have e : w.cell? ⟨g, k, none⟩ = some (.int .i32 (ext0 f len k)) := by
    rw [cell_of_row w g k _ _ _ h]
    simp [hk]
  have hlt := lt_of_cell e
  rw [← e]
  exact hb.cell hlt
theorem two_zeros (w : World) (n : Nat) (W : World) (hW : W = ((w.alloc (.cells (Array.replicate n (Value.int .i32 0)) 21)).alloc (.cells (Array.replicate n (Value.int .i32 0)) 21)).drew) :
    W.heap[w.heap.size]? = some (.cells (List.replicate n (Value.int .i32 0)).toArray 21 (0, 0)) ∧ W.heap[w.heap.size + 1]? = some (.cells (List.replicate n (Value.int .i32 0)).toArray 21 (0, 0)) ∧ Below w.heap.size w W ∧ W.heap.size = w.heap.size + 2 := by
  subst hW
  have e : ((w.alloc (.cells (Array.replicate n (Value.int .i32 0)) 21)).heap.size) = w.heap.size + 1 := by simp
  refine ⟨?_, ?_, (((Below.refl _ _).alloc (Nat.le_refl _) _).alloc (by simp) _).drew, by show ((w.alloc _).alloc _).heap.size = _; simp⟩
  · show ((w.alloc _).alloc _).heap[w.heap.size]? = _
    rw [Below.heap_alloc (w.alloc (.cells (Array.replicate n (Value.int .i32 0)) 21)) _ w.heap.size (by rw [e]; omega), heap_alloc_new w]
    simp
  · show ((w.alloc _).alloc _).heap[w.heap.size + 1]? = _
    rw [← e, heap_alloc_new]
    simp
theorem below_grown {w W W1 : World} {g : Nat} (h : Below w.heap.size w W) (hg : W.grownBy W1 (some g)) (hle : w.heap.size ≤ g) : Below w.heap.size w W1 := h.grown hg h.size (fun k hk => by cases hk; exact hle)
set_option maxRecDepth 100000 in
set_option maxHeartbeats 8000000 in
theorem chain_at (a : Option Addr) (len cap : Nat) (f : Nat → Int) (b : Option Addr) (len' cap' : Nat) (g : Nat → Int) (w : World) (hX : Words w a len cap f) (hY : Words w b len' cap' g) (n : Nat) (hl : len ≤ n) (hl' : len' ≤ n) (hn : n ≤ 40) (hmax : max (len : Int) len' = n) :
    Calls Try.prog 7 #[.slice a len cap, .slice b len' cap'] w fun e w' => e = .returned (.bool true) ∧ Below w.heap.size w w' := by
  obtain ⟨hlc, hcm, hf, hxc⟩ := hX
  obtain ⟨hlc', hcm', hg, hyc⟩ := hY
  have HX := Lib.hid hxc
  have HY := Lib.hid hyc
  have C1 := Lib.hid (step_sum (ext0 f len) (ext0 g len'))
  have C2 := Lib.hid (step_sum' (ext0 f len) (ext0 g len'))
  have C3 := Lib.hid (step_diff (ext0 f len) (ext0 g len') (ext0_isW f hf len))
  have hmk := run_zeros n hn
  clear hxc hyc hf hg
  have h1 : ¬ ((40 : Int) < (len : Int)) := by omega
  have h2 : ¬ ((40 : Int) < (len' : Int)) := by omega
  unfold maxLen at hcm hcm'
  go_enter Try.func7, Try.ntmps7
  go_wp2
  go_region
  · obtain ⟨W0, hW0⟩ : ∃ W, W = ((w.alloc (.cells (Array.replicate n (Value.int .i32 0)) 21)).alloc (.cells (Array.replicate n (Value.int .i32 0)) 21)).drew := ⟨_, rfl⟩
    have HZ := Lib.hid (two_zeros w n W0 hW0)
    rw [← hW0]
    clear hW0 hmk
    go_wp2_with (first
      | (with_reducible refine copy_kept (o := ⟨some 38, _, _, _, _, _⟩) rfl (.tmp 36) (.tmp 37) 35 rfl 21 Try.underlying35 (by kernel_rfl) (w.heap.size) n len cap a rfl rfl hl 21 (by exact HZ.out.1) f (fun k hk => (HX.out k hk).imp fun ad h => ⟨h.1, h.2 _ HZ.out.2.2.1⟩) ?_; intro W1 hA1 hg1; have HA1 := Lib.hid hA1; have HG1 := Lib.hid hg1; clear hA1 hg1)
      | (with_reducible refine copy_kept (o := ⟨some 41, _, _, _, _, _⟩) rfl (.tmp 39) (.tmp 40) 35 rfl 21 Try.underlying35 (by kernel_rfl) (w.heap.size + 1) n len' cap' b rfl rfl hl' 21 (by have := HZ.out.2.2.2; exact (HG1.out.block _ (by omega) (by simp)).trans (by exact HZ.out.2.1)) g (fun k hk => (HY.out k hk).imp fun ad h => ⟨h.1, h.2 _ (below_grown HZ.out.2.2.1 HG1.out (by omega))⟩) ?_; intro W2 hB2 hg2; have HB2 := Lib.hid hB2; have HG2 := Lib.hid hg2; clear hB2 hg2))
    have hW2 : Below w.heap.size w W2 := below_grown (below_grown HZ.out.2.2.1 HG1.out (by omega)) HG2.out (by omega)
    have HCB := Lib.hid (fun (w' : World) hb k hk => cells_of_words (w' := w') HB2.out hb k hk)
    have hA2 : W2.heap[w.heap.size]? = some (.cells ((List.range n).map fun k => Value.int .i32 (ext0 f len k)).toArray 21 (0, 0)) := (HG2.out.block _ (by have := HZ.out.2.2.2; have := HG1.out.size; omega) (by simp)).trans HA1.out
    have HCA := Lib.hid (fun (w' : World) hb k hk => cells_of_words (w' := w') hA2 hb k hk)
    clear hA2 HA1 HG1 HB2 HG2 HZ
    go_loopw [8, 9, 10, 43] (fun x y z i wr => ∃ k : Nat, k ≤ n ∧ i = .int .i64 k ∧ x = .int .i32 (cr (ext0 f len) (ext0 g len') k : Int) ∧ y = .int .i32 (cr (ext0 f len) (ext0 g len') k : Int) ∧ z = .int .i32 (cr (ext0 f len) (ext0 g len') k : Int) ∧ Below W2.heap.size W2 wr) (fun _ _ _ i _ => n - (intOf i).toNat)
    case atStart => exact ⟨0, Nat.zero_le _, rfl, rfl, rfl, rfl, Below.refl _ _⟩
    case round =>
      obtain ⟨k, hk, rfl, rfl, rfl, rfl, hbel⟩ := hrel
      by_cases hlt : (k : Int) < n
      · have e1 := HCA.out wr hbel k (by omega)
        have e2 := HCB.out wr hbel k (by omega)
        have c1 := Lib.hid (C1.out k)
        have c2 := Lib.hid (C2.out k)
        have c3 := Lib.hid (C3.out k)
        have q1 := cr_le (ext0 f len) (ext0 g len') (k + 1)
        have q2 := cr_le (ext0 f len) (ext0 g len') k
        have hz2 := hbel.size
        have N1 := Lib.hid (show cr (ext0 f len) (ext0 g len') (k + 1) = cr (ext0 f len) (ext0 g len') (k + 1) from rfl)
        have hk0 : (0 : Int) ≤ (k : Int) := by omega
        have hkn : k < n := by omega
        clear N1
        obtain ⟨c', hc'⟩ : ∃ c' : Int, c' = (cr (ext0 f len) (ext0 g len') (k + 1) : Int) := ⟨_, rfl⟩
        have N1 := Lib.hid hc'
        have p0 : 0 ≤ c' := by omega
        have p1 : c' ≤ 1 := by omega
        rw [← hc'] at c1 c2 c3
        clear hc' q1
        have FA := Lib.hid (fun w' hb => HCA.out w' hb k hkn)
        have FB := Lib.hid (fun w' hb => HCB.out w' hb k hkn)
        generalize ext0 f len k = A at *
        generalize ext0 g len' k = D at *
        generalize sm (ext0 f len) (ext0 g len') k = S at *
        generalize (cr (ext0 f len) (ext0 g len') k : Int) = cc at *
        go_wp2
        go_region_held3 (fun w' => w'.cell? ⟨w.heap.size, k, none⟩ = some (.int .i32 A) ∧ w'.cell? ⟨w.heap.size + 1, k, none⟩ = some (.int .i32 D)) (first | (exact ⟨f1, f2⟩) | go_keep)
          (first | (go_at_call 20; (with_reducible refine (c1.out _).mono ?_); rintro e w1 ⟨rfl, b1⟩; have hb1 := hbel.drew.trans (b1.mono hbel.size); have f1 := FA.out w1 hb1; have f2 := FB.out w1 hb1))
        clear e1 e2 hbel b1
        go_wp2
        go_region_held3 (fun w' => w'.cell? ⟨w.heap.size, k, none⟩ = some (.int .i32 A) ∧ w'.cell? ⟨w.heap.size + 1, k, none⟩ = some (.int .i32 D)) (first | (exact ⟨f3, f4⟩) | go_keep)
          (first | (go_at_call 20; (with_reducible refine (c2.out _).mono ?_); rintro e w3 ⟨rfl, b3⟩; have hb3 := hb1.drew.trans (b3.mono hb1.size); have f3 := FA.out w3 hb3; have f4 := FB.out w3 hb3))
        clear f1 f2 hb1 b3
        go_wp2_with (go_at_call 22; (with_reducible refine (c3.out _).mono ?_); rintro e w4 ⟨rfl, b4⟩; have hb4 := hb3.trans (b4.mono hb3.size); have f5 := FA.out w4 hb4)
        go_roundw
        case rel => exact ⟨k + 1, by omega, by go_num, by rw [← N1.out], by rw [← N1.out], by rw [← N1.out], hb4⟩
        case measure => simp [intOf]; omega
      · obtain rfl : n = k := by omega
        go_wp2_with (go_at_call 19; (with_reducible refine (awake_any _).mono ?_); rintro e w9 ⟨rfl, b9⟩)
        go_ret
        exact ⟨rfl, blw (hW2.trans (hbel.mono hW2.size)) b9⟩
  · obtain ⟨W0, hW0⟩ : ∃ W, W = ((w.alloc (.cells (Array.replicate n (Value.int .i32 0)) 21)).alloc (.cells (Array.replicate n (Value.int .i32 0)) 21)).drew := ⟨_, rfl⟩
    have HZ := Lib.hid (two_zeros w n W0 hW0)
    rw [← hW0]
    clear hW0 hmk
    go_wp2_with (first
      | (with_reducible refine copy_kept (o := ⟨some 38, _, _, _, _, _⟩) rfl (.tmp 36) (.tmp 37) 35 rfl 21 Try.underlying35 (by kernel_rfl) (w.heap.size + 1) n len cap a rfl rfl hl 21 (by exact HZ.out.2.1) f (fun k hk => (HX.out k hk).imp fun ad h => ⟨h.1, h.2 _ HZ.out.2.2.1⟩) ?_; intro W1 hA1 hg1; have HA1 := Lib.hid hA1; have HG1 := Lib.hid hg1; clear hA1 hg1)
      | (with_reducible refine copy_kept (o := ⟨some 41, _, _, _, _, _⟩) rfl (.tmp 39) (.tmp 40) 35 rfl 21 Try.underlying35 (by kernel_rfl) (w.heap.size) n len' cap' b rfl rfl hl' 21 (by have := HZ.out.2.2.2; exact (HG1.out.block _ (by omega) (by simp)).trans (by exact HZ.out.1)) g (fun k hk => (HY.out k hk).imp fun ad h => ⟨h.1, h.2 _ (below_grown HZ.out.2.2.1 HG1.out (by omega))⟩) ?_; intro W2 hB2 hg2; have HB2 := Lib.hid hB2; have HG2 := Lib.hid hg2; clear hB2 hg2))
    have hW2 : Below w.heap.size w W2 := below_grown (below_grown HZ.out.2.2.1 HG1.out (by omega)) HG2.out (by omega)
    have HCB := Lib.hid (fun (w' : World) hb k hk => cells_of_words (w' := w') HB2.out hb k hk)
    have hA2 : W2.heap[w.heap.size + 1]? = some (.cells ((List.range n).map fun k => Value.int .i32 (ext0 f len k)).toArray 21 (0, 0)) := (HG2.out.block _ (by have := HZ.out.2.2.2; have := HG1.out.size; omega) (by simp)).trans HA1.out
    have HCA := Lib.hid (fun (w' : World) hb k hk => cells_of_words (w' := w') hA2 hb k hk)
    clear hA2 HA1 HG1 HB2 HG2 HZ
    go_loopw [8, 9, 10, 43] (fun x y z i wr => ∃ k : Nat, k ≤ n ∧ i = .int .i64 k ∧ x = .int .i32 (cr (ext0 f len) (ext0 g len') k : Int) ∧ y = .int .i32 (cr (ext0 f len) (ext0 g len') k : Int) ∧ z = .int .i32 (cr (ext0 f len) (ext0 g len') k : Int) ∧ Below W2.heap.size W2 wr) (fun _ _ _ i _ => n - (intOf i).toNat)
    case atStart => exact ⟨0, Nat.zero_le _, rfl, rfl, rfl, rfl, Below.refl _ _⟩
    case round =>
      obtain ⟨k, hk, rfl, rfl, rfl, rfl, hbel⟩ := hrel
      by_cases hlt : (k : Int) < n
      · have e1 := HCA.out wr hbel k (by omega)
        have e2 := HCB.out wr hbel k (by omega)
        have c1 := Lib.hid (C1.out k)
        have c2 := Lib.hid (C2.out k)
        have c3 := Lib.hid (C3.out k)
        have q1 := cr_le (ext0 f len) (ext0 g len') (k + 1)
        have q2 := cr_le (ext0 f len) (ext0 g len') k
        have hz2 := hbel.size
        have N1 := Lib.hid (show cr (ext0 f len) (ext0 g len') (k + 1) = cr (ext0 f len) (ext0 g len') (k + 1) from rfl)
        have hk0 : (0 : Int) ≤ (k : Int) := by omega
        have hkn : k < n := by omega
        clear N1
        obtain ⟨c', hc'⟩ : ∃ c' : Int, c' = (cr (ext0 f len) (ext0 g len') (k + 1) : Int) := ⟨_, rfl⟩
        have N1 := Lib.hid hc'
        have p0 : 0 ≤ c' := by omega
        have p1 : c' ≤ 1 := by omega
        rw [← hc'] at c1 c2 c3
        clear hc' q1
        have FA := Lib.hid (fun w' hb => HCA.out w' hb k hkn)
        have FB := Lib.hid (fun w' hb => HCB.out w' hb k hkn)
        generalize ext0 f len k = A at *
        generalize ext0 g len' k = D at *
        generalize sm (ext0 f len) (ext0 g len') k = S at *
        generalize (cr (ext0 f len) (ext0 g len') k : Int) = cc at *
        go_wp2
        go_region_held3 (fun w' => w'.cell? ⟨w.heap.size + 1, k, none⟩ = some (.int .i32 A) ∧ w'.cell? ⟨w.heap.size, k, none⟩ = some (.int .i32 D)) (first | (exact ⟨f1, f2⟩) | go_keep)
          (first | (go_at_call 20; (with_reducible refine (c1.out _).mono ?_); rintro e w1 ⟨rfl, b1⟩; have hb1 := hbel.drew.trans (b1.mono hbel.size); have f1 := FA.out w1 hb1; have f2 := FB.out w1 hb1))
        clear e1 e2 hbel b1
        go_wp2
        go_region_held3 (fun w' => w'.cell? ⟨w.heap.size + 1, k, none⟩ = some (.int .i32 A) ∧ w'.cell? ⟨w.heap.size, k, none⟩ = some (.int .i32 D)) (first | (exact ⟨f3, f4⟩) | go_keep)
          (first | (go_at_call 20; (with_reducible refine (c2.out _).mono ?_); rintro e w3 ⟨rfl, b3⟩; have hb3 := hb1.drew.trans (b3.mono hb1.size); have f3 := FA.out w3 hb3; have f4 := FB.out w3 hb3))
        clear f1 f2 hb1 b3
        go_wp2_with (go_at_call 22; (with_reducible refine (c3.out _).mono ?_); rintro e w4 ⟨rfl, b4⟩; have hb4 := hb3.trans (b4.mono hb3.size); have f5 := FA.out w4 hb4)
        go_roundw
        case rel => exact ⟨k + 1, by omega, by go_num, by rw [← N1.out], by rw [← N1.out], by rw [← N1.out], hb4⟩
        case measure => simp [intOf]; omega
      · obtain rfl : n = k := by omega
        go_wp2_with (go_at_call 19; (with_reducible refine (awake_any _).mono ?_); rintro e w9 ⟨rfl, b9⟩)
        go_ret
        exact ⟨rfl, blw (hW2.trans (hbel.mono hW2.size)) b9⟩
theorem chain_long (a : Option Addr) (len cap : Nat) (b : Option Addr) (len' cap' : Nat) (h : 40 < len) (w : World) :
    Calls Try.prog 7 #[.slice a len cap, .slice b len' cap'] w fun e w' => e = .returned (.bool true) ∧ Below w.heap.size w w' := by
  have h1 : (40 : Int) < (len : Int) := by omega
  go_enter Try.func7, Try.ntmps7
  go_wp2_with (go_at_call 19; (with_reducible refine (awake_any _).mono ?_); rintro e w3 ⟨rfl, b3⟩)
  go_ret
  exact ⟨rfl, b3⟩
theorem chain_other (a : Option Addr) (len cap : Nat) (b : Option Addr) (len' cap' : Nat) (h : ¬ 40 < len) (h' : 40 < len') (w : World) :
    Calls Try.prog 7 #[.slice a len cap, .slice b len' cap'] w fun e w' => e = .returned (.bool true) ∧ Below w.heap.size w w' := by
  have h1 : ¬ (40 : Int) < (len : Int) := by omega
  have h2 : (40 : Int) < (len' : Int) := by omega
  go_enter Try.func7, Try.ntmps7
  go_wp2_with (go_at_call 19; (with_reducible refine (awake_any _).mono ?_); rintro e w3 ⟨rfl, b3⟩)
  go_ret
  exact ⟨rfl, b3⟩
theorem walkLongChain (a0 : Option Addr) (len0 cap0 : Nat) (z0 : List Int) (a1 : Option Addr) (len1 cap1 : Nat) (z1 : List Int) (w : World) (w0 : Came w a0 len0 cap0 z0) (w1 : Came w a1 len1 cap1 z1) :
    Calls Try.prog 7 #[.slice a0 len0 cap0, .slice a1 len1 cap1] w fun e w' => e = .returned (.bool true) ∧ Below w.heap.size w w' := by
  obtain ⟨f, hX⟩ := w0.words
  obtain ⟨g, hY⟩ := w1.words
  by_cases h : 40 < len0
  · exact chain_long a0 len0 cap0 a1 len1 cap1 h w
  · by_cases h' : 40 < len1
    · exact chain_other a0 len0 cap0 a1 len1 cap1 h h' w
    · exact chain_at a0 len0 cap0 f a1 len1 cap1 g w hX hY (max len0 len1) (by omega) (by omega) (by omega) (by omega)
end Go.Proofs.Ytikfbooihacjfaa
