/- Padded encodings. -/
import Derived.Test.YtiblicpaeogihaaLen
import Derived.Lib.JoinLaws
namespace Go.Proofs.Ytiblicpaeogihaa
open Go Go.RowKit

theorem run_mk (n : Nat) (hn : n ≤ 100000) : ∀ w : World, (Instr.makeSlice 24 (.int .i64 0) (.int .i64 (n : Int))).run Try.prog w = .ok (.slice (some ⟨w.heap.size, 0, none⟩) 0 n) (w.alloc (.cells (zc n) 5)) := fun w => by
  rw [run_make_room 24 5 (.int .u8 0) 1 Try.underlying24 byte_info rfl .i64 .i64 n (by omega) (by omega) w]
  have e := toList_madeCells_one (Value.int .u8 0) n
  have e2 : zc n = madeCells #[Value.int .u8 0] n := by
    unfold zc bs
    rw [List.map_replicate]
    apply Array.ext'
    rw [e]
    rfl
  rw [e2]
theorem own_mk (w : World) (n B : Nat) (hB : B ≤ w.heap.size) (hn : n ≤ 100000) : (w.alloc (.cells (zc n) 5)).ownsRow B 5 1 (.slice (some ⟨w.heap.size, 0, none⟩) 0 n) 0 (bs []) :=
  ⟨rfl, .inr ⟨w.heap.size, n, zc n, rfl, hB, heap_alloc_new w _, Nat.zero_le _, by unfold maxLen; omega, by simp [zc, bs], by simp [bs]⟩⟩
def pd (f : Nat) (v n : Int) : List Nat := if valid f = true ∧ ((enc f v).length : Int) ≤ n ∧ n ≤ 16 then List.replicate (n.toNat - (enc f v).length) 32 ++ enc f v else []
def pde (f : Nat) (v n : Int) : Int := if valid f = false then 2 else if n < ((enc f v).length : Int) then 4 else if 16 < n then 3 else 0
theorem pd_by (f : Nat) (v n : Int) : BY (pd f v n) := by
  unfold pd
  split
  · rename_i h
    intro x hx
    rcases List.mem_append.1 hx with hx | hx
    · have := List.eq_of_mem_replicate hx; omega
    · exact enc_by (valid_lt h.1) x hx
  · intro x hx; cases hx
theorem rep_snoc (k : Nat) : List.replicate k 32 ++ [32] = List.replicate (k + 1) 32 := by rw [List.replicate_succ']
theorem byte_32 (w : World) : Calls Try.prog 32 #[.int .u8 2, .int .i32 0] w fun e w' => e = .returned (.int .u8 32) ∧ w = w' := instrByte_any 2 (by omega) 0 w
/-- What an append onto a row of the call's own leaves. -/
theorem own_app {W w w' : World} {o : Option Obj} {v v' : Value} {n n' : Nat} {xs xs' : List Nat} (h : W.grownBy w none) (hown : w.ownsRow W.heap.size 5 1 v n (bs xs)) (g : ((o.elim w w.alloc)).grownBy w' v.ownBlock) (ho : w'.ownsRow W.heap.size 5 1 v' n' (bs xs')) :
    W.grownBy w' none ∧ w'.ownsRow W.heap.size 5 1 v' n' (bs xs') := by
  cases o with
  | none => exact ⟨g_app h hown g, ho⟩
  | some o => exact ⟨g_app (w := w.alloc o) (g_trans h (World.grownBy_alloc w o none)) (hown.alloc o) g, ho⟩
theorem own_of {w : World} {B n c : Nat} {A : Option Addr} {xs : List Nat} (h : w.ownsRow B 5 1 (.slice A n c) n (bs xs)) (hn : n = xs.length) : OwnB w B A c xs := by subst hn; exact h
theorem Pad_no (f : Nat) {v : Int} (hv : isW v) (n : Int) (h : pde f v n ≠ 0) (w : World) : Calls Try.prog 15 #[.agg #[.int .u8 (f : Int), .int .i32 v], .int .i64 n] w (Gives w (pde f v n) (pd f v n)) := by
  unfold Gives
  have CL := Lib.hid (fun w => Len_any f hv w)
  have e0 : pd f v n = [] := by
    unfold pd; unfold pde at h
    rw [if_neg]
    rintro ⟨a, b, c⟩
    rw [if_neg (by simp [a]), if_neg (by omega), if_neg (by omega)] at h
    exact h rfl
  rw [e0]
  unfold ln at CL
  by_cases h1 : valid f = true
  · have hp := enc_len_pos f v
    rw [if_pos h1] at CL
    by_cases h2 : n < ((enc f v).length : Int)
    · rw [show pde f v n = 4 by unfold pde; rw [if_neg (by simp [h1]), if_pos h2]]
      generalize (enc f v).length = L at *
      have q0 : ¬ (L : Int) = 0 := by omega
      clear h hv e0 h1 hp
      go_enter Try.func15, Try.ntmps15
      go_wp2_with (go_at_call 13; (with_reducible refine (CL.out _).mono ?_); rintro e w1 ⟨rfl, g1⟩; have G1 := Lib.hid g1; clear g1)
      go_ret2
      exact ⟨none, 0, rfl, own_nil _ _, g_trans (World.grownBy_alloc w _ none) G1.out⟩
    · have h3 : 16 < n := by
        unfold pde at h
        rw [if_neg (by simp [h1]), if_neg h2] at h
        by_cases h3 : 16 < n
        · exact h3
        · rw [if_neg h3] at h; exact absurd rfl h
      rw [show pde f v n = 3 by unfold pde; rw [if_neg (by simp [h1]), if_neg h2, if_pos h3]]
      generalize (enc f v).length = L at *
      have q0 : ¬ (L : Int) = 0 := by omega
      clear h hv e0 h1 hp
      go_enter Try.func15, Try.ntmps15
      go_wp2_with (go_at_call 13; (with_reducible refine (CL.out _).mono ?_); rintro e w1 ⟨rfl, g1⟩; have G1 := Lib.hid g1; clear g1)
      go_ret2
      exact ⟨none, 0, rfl, own_nil _ _, g_trans (World.grownBy_alloc w _ none) G1.out⟩
  · rw [show pde f v n = 2 by unfold pde; rw [if_pos (by simpa using h1)]]
    rw [if_neg h1] at CL
    clear h hv e0 h1
    go_enter Try.func15, Try.ntmps15
    go_wp2_with (go_at_call 13; (with_reducible refine (CL.out _).mono ?_); rintro e w1 ⟨rfl, g1⟩; have G1 := Lib.hid g1; clear g1)
    go_ret2
    exact ⟨none, 0, rfl, own_nil _ _, g_trans (World.grownBy_alloc w _ none) G1.out⟩
set_option maxRecDepth 100000 in
theorem Pad_ok (f : Nat) {v : Int} (hv : isW v) (h1 : valid f = true) (m : Nat) (h2 : (enc f v).length ≤ m) (h3 : m ≤ 16) (w : World) : Calls Try.prog 15 #[.agg #[.int .u8 (f : Int), .int .i32 v], .int .i64 (m : Int)] w
    (Gives w 0 (List.replicate (m - (enc f v).length) 32 ++ enc f v)) := by
  unfold Gives
  have CL := Lib.hid (fun w => Len_any f hv w)
  unfold ln at CL
  rw [if_pos h1] at CL
  have hp := enc_len_pos f v
  have CE := Lib.hid (enc_any f (valid_lt h1) v hv)
  unfold EncC Made at CE
  have hl : (List.replicate (m - (enc f v).length) 32 ++ enc f v).length = m := by simp; omega
  rw [hl]
  clear hl
  have hmk := run_mk m (by omega)
  generalize hz : enc f v = zs at *
  generalize hL : zs.length = L at *
  have HL := Lib.hid hL
  clear hL hz h1 hv
  have q0 : ¬ (L : Int) = 0 := by omega
  have q1 : ¬ (m : Int) < (L : Int) := by omega
  have q2 : ¬ 16 < (m : Int) := by omega
  have q3 : (L : Int) ≤ (m : Int) := by omega
  have q4 : ((L : Int) == 0) = false := by simpa using q0
  have q5 : decide (m < L) = false := by simp; omega
  go_enter Try.func15, Try.ntmps15
  go_wp2_with (go_at_call 13; (with_reducible refine (CL.out _).mono ?_); rintro e w1 ⟨rfl, g1⟩; have G1 := Lib.hid g1; clear g1)
  generalize hW0 : w.alloc (.cells #[.int .u8 (f : Int), .int .i32 v] 23) = W0 at *
  go_loopw [7, 25] (fun b i wr => ∃ k : Nat, k ≤ m - L ∧ i = .int .i64 k ∧ ∃ A c, b = .slice A k c ∧ Hid (W0.grownBy wr none ∧ wr.ownsRow W0.heap.size 5 1 (.slice A k c) k (bs (List.replicate k 32)))) (fun _ i _ => m - L - (intOf i).toNat)
  case atStart => exact ⟨0, by omega, rfl, _, _, rfl, g_trans G1.out (World.grownBy_alloc _ _ _), own_mk _ _ _ G1.out.size (by omega)⟩
  case round =>
    obtain ⟨k, hk, rfl, A, c, rfl, H⟩ := hrel
    by_cases hlt : (k : Int) < (m : Int) - L
    · have hk0 : (0 : Int) ≤ (k : Int) := by omega
      go_wp2_with (first
        | (go_at_call 32; (with_reducible refine (byte_32 _).mono ?_); rintro e w' ⟨rfl, rfl⟩)
        | (at_builtin; refine app_one rfl (.tmp 27) (.tmp 29) rfl W0.heap.size k c 1 A ⟨wr.heap.size, 0, none⟩ (List.replicate k 32) 32 rfl rfl (H.out.2.alloc _) (cell_new _ _ _) (by omega) (by have := H.out.1.size; simp; omega) ?_; intro g3 c3 w3 o3 g3' l3; have H3 := Lib.hid (own_app (o := some (.cells #[.int .u8 32] 5)) H.out.1 H.out.2 g3' o3); clear o3 g3' l3))
      rw [rep_snoc] at H3
      go_roundw
      case rel => exact ⟨k + 1, by omega, by go_num, _, _, rfl, H3.out⟩
      case measure => simp [intOf]; omega
    · obtain rfl : k = m - L := by omega
      obtain ⟨k0, k1⟩ := box_cells (w := w) (w1 := wr) (by rw [hW0]; exact H.out.1)
      have hn0 : m - L ≤ 900000 := by omega
      have CE2 := Lib.hid (CE.out wr W0.heap.size A (m - L) c _ H.out.2 hn0 H.out.1.size)
      go_wp2_with (go_at_call 29; (with_reducible refine CE2.out.mono ?_); rintro e w2 ⟨g2, c2, rfl, o2, g2', l2⟩; have H2 := Lib.hid (own_app (o := none) H.out.1 H.out.2 g2' o2); clear o2 g2' l2)
      go_ret2
      have hl : m - L + L = m := by omega
      rw [hl] at H2
      refine ⟨_, _, rfl, own_lower (by rw [← hW0]; simp) (own_of H2.out.2 (by have := HL.out; simp; omega)), ?_⟩
      have := H2.out.1
      rw [← hW0] at this
      exact g_trans (World.grownBy_alloc w _ none) this
theorem pde_ok {f : Nat} {v n : Int} (h : pde f v n = 0) : valid f = true ∧ ((enc f v).length : Int) ≤ n ∧ n ≤ 16 := by
  unfold pde at h
  by_cases h1 : valid f = true
  · rw [if_neg (by simp [h1])] at h
    by_cases h2 : n < ((enc f v).length : Int)
    · rw [if_pos h2] at h; exact absurd h (by decide)
    · rw [if_neg h2] at h
      by_cases h3 : 16 < n
      · rw [if_pos h3] at h; exact absurd h (by decide)
      · exact ⟨h1, by omega, by omega⟩
  · rw [if_pos (by simpa using h1)] at h; exact absurd h (by decide)
theorem Pad_any (f : Nat) {v : Int} (hv : isW v) (n : Int) (w : World) : Calls Try.prog 15 #[.agg #[.int .u8 (f : Int), .int .i32 v], .int .i64 n] w (Gives w (pde f v n) (pd f v n)) := by
  by_cases h : pde f v n = 0
  · obtain ⟨h1, h2, h3⟩ := pde_ok h
    have := Pad_ok f hv h1 n.toNat (by omega) (by omega) w
    rwa [show ((n.toNat : Nat) : Int) = n by omega, ← h, show List.replicate (n.toNat - (enc f v).length) 32 ++ enc f v = pd f v n from (if_pos ⟨h1, h2, h3⟩).symm] at this
  · exact Pad_no f hv n h w
end Go.Proofs.Ytiblicpaeogihaa
