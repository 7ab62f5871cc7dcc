/- A call of Read of a memory and of the reference; then every kind of call. -/
import Derived.Test.YtjdinppblejcdaaDoes
namespace Go.Proofs.Ytjdinppblejcdaa
open Go Go.RowKit

/-- The first n cells of block h are bytes, and can be stored. -/
def WB (w : World) (h n : Nat) : Prop := ∃ cur : Array Value, w.heap[h]? = some (.cells cur 5 (0, 0)) ∧ ∀ j, j < n → ∃ u : Int, cur[j]? = some (.int .u8 u)
theorem WB.cell {w : World} {h n j : Nat} (H : WB w h n) (hj : j < n) : ∃ u : Int, w.cell? ⟨h, j, none⟩ = some (.int .u8 u) ∧ w.frozen? ⟨h, j, none⟩ = false := by
  obtain ⟨cur, hh, hc⟩ := H
  obtain ⟨u, hu⟩ := hc j hj
  exact ⟨u, by rw [cell_of_row w h j _ _ _ hh]; exact hu, by simp [World.frozen?, hh]⟩
theorem WB.set {w : World} {h n : Nat} (H : WB w h n) (k : Nat) (v : Int) : WB (w.setCell ⟨h, k, none⟩ (.int .u8 v)) h n := by
  obtain ⟨cur, hh, hc⟩ := H
  refine ⟨cur.setIfInBounds k (.int .u8 v), by simp [World.setCell, Array.getElem?_modify, hh], fun j hj => ?_⟩
  obtain ⟨u, hu⟩ := hc j hj
  rw [Array.getElem?_setIfInBounds]
  by_cases e : k = j
  · subst e
    have := (Array.getElem?_eq_some_iff.1 hu).1
    exact ⟨v, by rw [if_pos rfl, if_pos this]⟩
  · exact ⟨u, by rw [if_neg e]; exact hu⟩
theorem WB.row {w : World} {h : Nat} {xs : List Nat} (H : w.heap[h]? = some (.cells (bs xs).toArray 5 (0, 0))) : WB w h xs.length :=
  ⟨_, H, fun j hj => ⟨((xs.getD j 0 : Nat) : Int), by simpa [bc] using bs_at hj⟩⟩
theorem WB.kept {w w' : World} {h n : Nat} (H : WB w h n) (hg : w.grownBy w' none) : WB w' h n := by
  obtain ⟨cur, hh, hc⟩ := H
  exact ⟨cur, (hg.block h (heap_lt hh) (by simp)).trans hh, hc⟩
theorem OwnB.wb {w : World} {B c : Nat} {A : Option Addr} {xs : List Nat} (H : OwnB w B A c xs) (K : Nat) (hK : B ≤ K) : ∃ h, B ≤ h ∧ ((xs.length = 0 ∧ h = K) ∨ (A = some ⟨h, 0, none⟩ ∧ WB w h xs.length)) := by
  rcases H.2 with ⟨hv, h0⟩ | ⟨g, cap, cur, hv, hB, hh, hnc, hm, hcs, hx⟩
  · exact ⟨K, hK, .inl ⟨h0, rfl⟩⟩
  · injection hv with h1 h2 h3
    refine ⟨g, hB, .inr ⟨h1, cur, hh, fun j hj => ⟨((xs.getD j 0 : Nat) : Int), ?_⟩⟩⟩
    have e := bs_at hj
    rw [← hx, List.getElem?_take, if_pos (by omega)] at e
    simpa [bc] using e
set_option maxRecDepth 100000 in
set_option maxHeartbeats 4000000 in
theorem does4 {w : World} {p g c d : Nat} {A B : Option Addr} {xs ys : List Nat} (H : Both w p g A c xs) {q a b v n : Int} (hq : q % 6 = 4) (h0 : 0 ≤ q) (h1 : q < 256) (ha : isW a) (hn : n < 9223372036854775808) :
    Calls Try.prog 14 #[.pointer (some ⟨p, 0, none⟩), .slice A xs.length c, .agg (opc q a b v n B ys.length d)] w (Done w p g A xs.length) := by
  have G0 := World.grownBy_alloc w (.cells (opc q a b v n B ys.length d) 34) none
  have H0 := H.kept0 G0
  have C1 := Lib.hid (Read_any H0.mem ha hn)
  have C2 := Lib.hid (fun (w1 : World) (R1 : RS w1 A c xs) => rRead_any R1 H.mem.big ha hn)
  have BX := Lib.hid (fun (w1 : World) i u (h : (w.alloc (.cells (opc q a b v n B ys.length d) 34)).grownBy w1 (some g)) (hi : (opc q a b v n B ys.length d)[i]? = some u) => box_cell h H.mem.glt hi)
  have HH := Lib.hid (And.intro H (And.intro G0 H0))
  have HB := Lib.hid (show BY (rd xs (ix a) n.toNat) from rd_by H.mem.by_)
  have HZ : (rd xs (ix a) n.toNat).length ≤ 65536 := by
    have := H.mem.big
    unfold rd
    split
    · simp; omega
    · simp
  clear H G0 H0 ha hn
  unfold Reads at C1 C2
  unfold opc at *
  generalize hL : ys.length = m at *
  clear hL
  generalize rde xs.length (ix a) n = E at *
  generalize rd xs (ix a) n.toNat = zs at *
  generalize hK : xs.length = L at *
  have HK := Lib.hid hK
  clear hK
  obtain ⟨K, hK⟩ : ∃ K, K = zs.length := ⟨_, rfl⟩
  have HKz := Lib.hid hK
  rw [← hK] at C1 C2 HZ
  clear hK
  go_enter Try.func14, Try.ntmps14
  go_wp2_with (first
    | (go_at_call 31; (with_reducible refine C1.out.mono ?_); rintro e w1 ⟨A1, c1, rfl, o1, g1⟩; have f1 := BX.out w1 1 _ (g_wide g1) rfl; have f4 := BX.out w1 4 _ (g_wide g1) rfl; have H1 := Lib.hid (And.intro g1 o1); clear g1 o1)
    | (go_at_call 42; (with_reducible refine (C2.out _ (HH.out.2.2.ref.kept0 H1.out.1)).mono ?_); rintro e w2 ⟨A2, c2, rfl, o2, g2⟩; have H2 := Lib.hid (And.intro g2 (And.intro (OwnB.rs o2 HB.out).1 ((OwnB.rs H1.out.2 HB.out).1.kept0 g2))); clear g2 o2; have S := Lib.hid (Same_any H2.out.2.2 H2.out.2.1); rw [← HKz.out] at S)
    | (go_at_call 15; (with_reducible refine S.out.mono ?_); rintro e w3 ⟨rfl, rfl⟩))
  obtain ⟨h, hB, hA⟩ := OwnB.wb H1.out.2 w2.heap.size (Nat.le_trans H1.out.1.size H2.out.1.size)
  have HA := Lib.hid (show (K = 0) ∨ (A1 = some ⟨h, 0, none⟩ ∧ WB w2 h K) by
    rw [HKz.out]
    rcases hA with ⟨e, _⟩ | ⟨e, hw⟩
    · exact .inl e
    · exact .inr ⟨e, hw.kept H2.out.1⟩)
  have GB := Lib.hid (And.intro (g_trans H1.out.1 H2.out.1) hB)
  clear hA hB
  generalize w2 = W2 at *
  go_loopw [25] (fun i wr => ∃ k : Nat, k ≤ K ∧ i = .int .i64 k ∧ Hid (W2.grownBy wr (some h) ∧ (K = 0 ∨ WB wr h K))) (fun i _ => K - (intOf i).toNat)
  case atStart => exact ⟨0, Nat.zero_le _, rfl, World.grownBy.refl _ _, HA.out.imp id (·.2)⟩
  case round =>
    obtain ⟨k, hk, rfl, hw⟩ := hrel
    by_cases hlt : (k : Int) < (K : Int)
    · obtain ⟨rfl, _⟩ : A1 = some ⟨h, 0, none⟩ ∧ WB W2 h K := by
        rcases HA.out with e | e
        · omega
        · exact e
      have hw1 : WB wr h K := by
        rcases hw.out.2 with e | e
        · omega
        · exact e
      obtain ⟨u, hu, hf⟩ := hw1.cell (j := k) (by omega)
      have HW := Lib.hid (fun v => hw1.set k v)
      have hk0 : (0 : Int) ≤ (k : Int) := by omega
      clear hw1
      go_wp2
      go_roundw
      case rel => exact ⟨k + 1, by omega, by go_num, g_trans hw.out.1 (g_set _ _ _ _), .inr (HW.out _)⟩
      case measure => simp [intOf]; omega
    · go_wp2
      go_ret2
      have G := g_new GB.out.1 hw.out.1 GB.out.2
      exact ⟨A, c, xs, rfl, HK.out, g_wide (g_trans HH.out.2.1 G), HH.out.2.2.mem.kept0 G, HH.out.2.2.ref.kept0 G, .inl rfl⟩
theorem does_any {w : World} {p g c d : Nat} {A B : Option Addr} {xs ys : List Nat} (H : Both w p g A c xs) {q a b v n : Int} (h0 : 0 ≤ q) (h1 : q < 256) (ha : isW a) (hb : isW b) (hn : n < 9223372036854775808) (S : RS w B d ys) (hs : 0 < ys.length → Sep B g) :
    Calls Try.prog 14 #[.pointer (some ⟨p, 0, none⟩), .slice A xs.length c, .agg (opc q a b v n B ys.length d)] w (Done w p g A xs.length) := by
  obtain e | e | e | e | e | e : q % 6 = 0 ∨ q % 6 = 1 ∨ q % 6 = 2 ∨ q % 6 = 3 ∨ q % 6 = 4 ∨ q % 6 = 5 := by omega
  · exact does0 H e h0 h1 ha
  · exact does1 H e h0 h1 ha
  · exact does2 H e h0 h1 ha S hs
  · exact does3 H e h0 h1 ha hb
  · exact does4 H e h0 h1 ha hn
  · exact does5 H e h0 h1 ha
end Go.Proofs.Ytjdinppblejcdaa
