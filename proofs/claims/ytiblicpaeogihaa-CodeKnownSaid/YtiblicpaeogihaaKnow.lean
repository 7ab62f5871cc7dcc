/- What the examples and limits of the chapter need: calls at known instructions and bytes. -/
import Derived.Test.YtiblicpaeogihaaLawsG
import Derived.Deep.DeepAppendRoom
namespace Go.Proofs.Ytiblicpaeogihaa
open Go Go.RowKit

/-! Long lists of bytes 0. -/
theorem enc_zero : enc 0 0 = [0] := by decide +kernel
theorem jl_rep (n : Nat) : jl (List.replicate n i0) = List.replicate n 0 := by
  induction n with
  | zero => rfl
  | succ n ih =>
    rw [List.replicate_succ, List.replicate_succ, ← ih]
    show enc 0 0 ++ jl (List.replicate n i0) = _
    rw [enc_zero]
    rfl
theorem rep_ok (n : Nat) : OKI (List.replicate n i0) := by
  intro p hp
  rw [List.eq_of_mem_replicate hp]
  exact ⟨by decide, by unfold isW; decide⟩
theorem rep_av (n : Nat) : av (List.replicate n i0) = true := by
  unfold av
  refine List.all_eq_true.2 fun p hp => ?_
  rw [List.eq_of_mem_replicate hp]
  decide
theorem rep_by (n : Nat) : BY (List.replicate n 0) := by
  intro x hx
  rw [List.eq_of_mem_replicate hx]
  decide
theorem rep_all {n : Nat} (h : n ≤ 32768) : ae (List.replicate n 0) = 0 ∧ al (List.replicate n 0) = List.replicate n i0 := by
  have e : ae (List.replicate n 0) = lastE (items (List.replicate n 0)) := if_neg (by simp; omega)
  have e3 : items (List.replicate n 0) = gots (List.replicate n i0) := by rw [← jl_rep]; exact items_jl (rep_ok n) (rep_av n)
  have e2 : ae (List.replicate n 0) = 0 := by
    rw [e, e3]
    refine lastE_ok ?_
    intro g hg
    simp only [gots, List.mem_map] at hg
    obtain ⟨p, _, rfl⟩ := hg
    rfl
  exact ⟨e2, by rw [al_ok e2, e3, toI_gots]⟩
theorem rep_join {n : Nat} (h : n ≤ 32768) : je (List.replicate n i0) = 0 ∧ (jb (List.replicate n i0)).length = n := by
  have e := je_ok (rep_av n) (by rw [jl_rep]; simp; omega)
  exact ⟨e, by rw [jb_ok e, jl_rep]; simp⟩
def ldc : II := (4, 5)
theorem rep_more {n : Nat} (h : n = 32768) : je (List.replicate n i0 ++ [ldc]) = 3 := by
  refine je_long ?_ ?_
  · unfold av; rw [List.all_append]
    have := rep_av n
    unfold av at this
    rw [this]
    decide
  · rw [jl_app, jl_rep, List.length_append, List.length_replicate, show jl [ldc] = [69] by decide +kernel]
    simp; omega
theorem rep_bad (n : Nat) : je (List.replicate n i0 ++ [ldc, (2, 0)]) = 2 := by
  refine je_bad ?_
  unfold av
  rw [List.all_append]
  simp [ldc]
  intro _
  decide
theorem kn_two : ae [69, 245] = 0 ∧ al [69, 245] = [ldc, (15, 5)] := by
  have g1 : get [69, 245] = ⟨4, 5, 1, 0⟩ := by kernel_rfl
  have g2 : get [245] = ⟨15, 5, 1, 0⟩ := by kernel_rfl
  have e : items [69, 245] = [⟨4, 5, 1, 0⟩, ⟨15, 5, 1, 0⟩] := by
    rw [items_ok (by simp) (by rw [g1]), g1, show List.drop 1 [69, 245] = [245] from rfl, items_ok (by simp) (by rw [g2]), g2, show List.drop 1 [245] = ([] : List Nat) from rfl, items_nil]
  have e1 : ae [69, 245] = lastE (items [69, 245]) := if_neg (by simp)
  have e2 : ae [69, 245] = 0 := by rw [e1, e]; rfl
  exact ⟨e2, by rw [al_ok e2, e]; rfl⟩
theorem kn_short : ae [69, 37] = 40 ∧ al [69, 37] = [] := by
  have g1 : get [69, 37] = ⟨4, 5, 1, 0⟩ := by kernel_rfl
  have g2 : get [37] = ⟨0, 0, 0, 40⟩ := by kernel_rfl
  have e : items [69, 37] = [⟨4, 5, 1, 0⟩, ⟨0, 0, 0, 40⟩] := by
    rw [items_ok (by simp) (by rw [g1]), g1, show List.drop 1 [69, 37] = [37] from rfl, items_bad (by simp) (by rw [g2]; decide), g2]
  have e1 : ae [69, 37] = lastE (items [69, 37]) := if_neg (by simp)
  have e2 : ae [69, 37] = 40 := by rw [e1, e]; rfl
  exact ⟨e2, al_no (by rw [e2]; decide)⟩
theorem kn_none : ae [] = 0 ∧ al [] = [] := by
  have e1 : ae [] = lastE (items []) := if_neg (by simp)
  have e2 : ae [] = 0 := by rw [e1, items_nil]; rfl
  exact ⟨e2, by rw [al_ok e2, items_nil]; rfl⟩
/-! A row of the call's own, cut; one instruction appended to a row, which can be read as before. -/
theorem own_cut {w : World} {B n k c : Nat} {A : Option Addr} {xs : List Nat} (h : w.ownsRow B 5 1 (.slice A n c) n (bs xs)) (hk : k ≤ n) (hn : 0 < n) : w.ownsRow B 5 1 (.slice A k c) k (bs (xs.take k)) ∧ n ≤ c := by
  have hl := h.1
  rw [bs_len] at hl
  rcases h.2 with ⟨_, h0⟩ | ⟨g, cap, cur, hv, hB, hh, hnc, hm, hcs, hx⟩
  · omega
  · injection hv with h1 h2 h3
    subst h1 h3
    refine ⟨⟨by rw [bs_len, List.length_take]; omega, .inr ⟨g, _, cur, rfl, hB, hh, by omega, hm, hcs, ?_⟩⟩, hnc⟩
    rw [show bs (xs.take k) = (bs xs).take k by simp [bs, List.map_take], ← hx, List.take_take]
    congr 1
    omega
theorem run_app_keep {W0 w : World} {n c B k : Nat} {A : Option Addr} {l : List II} {f : Nat} {v : Int} {ty : TypeId} (hW : W0.grownBy w none) (own : OwnI w W0.heap.size A n c l) (hok : OKI l) (hx : f < 256 ∧ isW v) (hn : 0 < n) (hl : n ≤ 100000)
    (hc : w.cell? ⟨B, 0, none⟩ = some (.int .u8 (f : Int)) ∧ w.cell? ⟨B, 1, none⟩ = some (.int .i32 v)) :
    ∃ A2 c2 w', (Builtin.append_ #[43, 43] ty #[.slice A n c, .slice (some ⟨B, 0, none⟩) 1 k]).run Try.prog w = .ok (.slice A2 (n + 1) c2) w' ∧ W0.grownBy w' none ∧ RI w' A2 c2 (l ++ [(f, v)]) ∧ RI w' A c l := by
  obtain ⟨i0', hi0, hz0, hz1, hz2⟩ := info_parts ins_info
  have hnews : ∀ j u, ([.int .u8 (f : Int), .int .i32 v] : List Value)[j]? = some u → w.cell? ((⟨B, 0, none⟩ : Addr).add j) = some u := by
    intro j u hj
    match j with
    | 0 => simp at hj; subst hj; exact hc.1
    | 1 => simp at hj; subst hj; exact hc.2
    | j + 2 => simp at hj
  have hone : ∀ u ∈ ([.int .u8 (f : Int), .int .i32 v] : List Value), u.oneCell' = true := by
    intro u hu
    simp at hu
    rcases hu with rfl | rfl <;> rfl
  have hok2 : OKI (l ++ [(f, v)]) := hok.app (fun p hp => by simp at hp; subst hp; exact hx)
  obtain ⟨g, cap, e, hB, hg⟩ := World.ownsRow.form own hn
  injection e with e1 e2 e3
  subst e1 e3
  have hll := own.len
  by_cases hroom : n + 1 ≤ c
  · obtain ⟨w', hr, h2, h3⟩ := run_append_own_spare (P := Try.prog) w W0.heap.size 43 ty 23 i0' 2 Try.underlying43 hi0 hz1 g n c (is l) own ⟨B, 0, none⟩ 1 k [.int .u8 (f : Int), .int .i32 v] rfl hnews hone hroom
    have R : RI w' (some ⟨g, 0, none⟩) c (l ++ [(f, v)]) := OwnI.ri (B := W0.heap.size) (n := n + 1) (by unfold OwnI; rw [is_app]; exact h2) hok2
    refine ⟨_, _, w', hr, g_app2 hW own h3, R, ?_⟩
    have := R.take n
    rwa [← hll, List.take_left] at this
  · have holds : ∀ j u, (is l)[j]? = some u → w.cell? ((⟨g, 0, none⟩ : Addr).add j) = some u := own.cells (g := g) rfl
    have hr := run_append_grow (P := Try.prog) w 43 ty 23 i0' _ Try.underlying43 hi0 hz0 ⟨g, 0, none⟩ n c (is l) (by rw [hz1]; exact own.1) holds ⟨B, 0, none⟩ 1 k [.int .u8 (f : Int), .int .i32 v] (by rw [hz1]; rfl) hnews (by omega) (by omega) (by rw [hz2]; exact growslice_fits (by omega) (by omega))
    have hge := grownCap_ge w (n + 1) c 23
    have hcm : grownCap w (n + 1) c 23 ≤ maxLen := grownCap_le_maxLen w (n + 1) c _ (by unfold maxLen; omega)
    have hgr : ∀ o : Obj, w.grownBy (w.drew.alloc o) none := fun o => ⟨rfl, rfl, rfl, by simp, fun k hk _ => heap_alloc_old w.drew _ k hk⟩
    have hlen : (is l ++ [Value.int .u8 (f : Int), .int .i32 v]).length = (n + 1) * 2 := by rw [List.length_append, own.1]; simp; omega
    refine ⟨_, _, _, hr, g_trans hW (hgr _), ?_, (own.ri hok).kept0 (hgr _)⟩
    refine OwnI.ri (B := W0.heap.size) (n := n + 1) ?_ hok2
    unfold OwnI
    rw [is_app]
    refine ⟨hlen, .inr ⟨w.heap.size, _, _, rfl, hW.size, heap_alloc_new w.drew _, hge, hcm, ?_, ?_⟩⟩
    · simp only [Array.size_append, List.size_toArray, size_zeroCells, own.1, show (Value.agg #[Value.int .u8 0, Value.int .i32 0]).cells.size = 2 from rfl]
      simp
      omega
    · simp only [Array.toList_append, List.append_assoc]
      rw [← List.append_assoc]
      show List.take ((n + 1) * 2) ((is l ++ [Value.int .u8 (f : Int), .int .i32 v]) ++ _) = _
      rw [← hlen]
      exact List.take_left
theorem app_keep {W0 w : World} {ops : Array Oper} {rest : List Oper} {o : Oper} {a : Act} {Q : Exit → Act → World → Prop} (hgd : o.guard = none) (s x : Operand)
    (ho : o.op = .call { callee := .builtin .append, args := #[s, x], argTypes := #[43, 43] }) (n c k : Nat) (A : Option Addr) (B : Nat) (l : List II) (f : Nat) (v : Int) (hs : a.eval s = .slice A n c) (hx : a.eval x = .slice (some ⟨B, 0, none⟩) 1 k)
    (hW : W0.grownBy w none) (own : OwnI w W0.heap.size A n c l) (hok : OKI l) (hxv : f < 256 ∧ isW v) (hn : 0 < n) (hl : n ≤ 100000) (hc : w.cell? ⟨B, 0, none⟩ = some (.int .u8 (f : Int)) ∧ w.cell? ⟨B, 1, none⟩ = some (.int .i32 v))
    (h : ∀ A2 c2 w', W0.grownBy w' none → RI w' A2 c2 (l ++ [(f, v)]) → RI w' A c l → wpList Try.prog ops Q rest (a.put o.dst (.slice A2 (n + 1) c2)) w') : wpList Try.prog ops Q (o :: rest) a w := by
  obtain ⟨A2, c2, w', hr, h1, h2, h3⟩ := run_app_keep (ty := o.type) (k := k) hW own hok hxv hn hl hc
  refine wpList_plain hgd fun K hK => ?_
  unfold Oper.wp execOp
  simp only [ho, resolve, invoke, builtin, Sem.run_bind, Sem.run_pure, Result.andThen_ok, List.map_toArray, List.map_cons, List.map_nil, hs, hx, hr]
  exact hK _ _ (h A2 c2 w' h1 h2 h3)
/-! Sixteen bytes of one kind. -/
set_option maxRecDepth 100000 in
set_option maxHeartbeats 1000000 in
theorem make16_any (y : Nat) (w : World) : Calls Try.prog 27 #[.int .u8 (y : Int)] w fun e w' => ∃ A c, e = .returned (.slice A 16 c) ∧ w'.ownsRow w.heap.size 5 1 (.slice A 16 c) 16 (bs (List.replicate 16 y)) ∧ w.grownBy w' none := by
  go_enter Try.func27, Try.ntmps27
  go_wp2
  go_loopw [3, 4] (fun b i wr => ∃ k : Nat, k ≤ 16 ∧ i = .int .i64 k ∧ ∃ A1 c1, b = .slice A1 k c1 ∧ Hid (w.grownBy wr none ∧ wr.ownsRow w.heap.size 5 1 (.slice A1 k c1) k (bs (List.replicate k y)))) (fun _ i _ => 16 - (intOf i).toNat)
  case atStart => exact ⟨0, by omega, rfl, _, _, rfl, World.grownBy.refl _ _, own_nil' _ _⟩
  case round =>
    obtain ⟨k, hk, rfl, A1, c1, rfl, H⟩ := hrel
    by_cases hlt : k < 16
    · go_wp2_with (at_builtin; refine app_one rfl (.tmp 9) (.tmp 11) rfl w.heap.size k c1 1 A1 ⟨wr.heap.size, 0, none⟩ (List.replicate k y) y rfl rfl (H.out.2.alloc _) (cell_new _ _ _) (by omega) (by have := H.out.1.size; simp; omega) ?_; intro g3 c3 w3 o3 g3' _; have H3 := Lib.hid (own_app (o := some _) H.out.1 H.out.2 g3' o3); clear o3 g3')
      rw [← List.replicate_succ'] at H3
      go_roundw
      case rel => exact ⟨k + 1, by omega, by go_num, _, _, rfl, H3.out⟩
      case measure => simp [intOf]; omega
    · obtain rfl : k = 16 := by omega
      go_wp2
      go_ret
      exact ⟨_, _, rfl, H.out.2, H.out.1⟩
end Go.Proofs.Ytiblicpaeogihaa
