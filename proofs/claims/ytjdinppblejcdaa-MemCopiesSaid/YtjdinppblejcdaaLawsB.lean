/- The law on From returns true for every slice of bytes and every address. -/
import Derived.Test.YtjdinppblejcdaaLawsA
namespace Go.Proofs.Ytjdinppblejcdaa
open Go Go.RowKit

/-- A slice of bytes that came in: nil, or a row of cap cells that hold the numbers of zs. -/
def Came (w : World) (a : Option Addr) (len cap : Nat) (zs : List Int) : Prop :=
  (a = none ∧ len = 0 ∧ cap = 0 ∧ zs = []) ∨
  ∃ x, a = some x ∧ len ≤ cap ∧ cap ≤ maxLen ∧ zs.length = cap ∧ (∀ i, i < zs.length → w.cell? (x.add i) = some (.int .u8 (zs.getD i 0))) ∧ ∀ n ∈ zs, (Lit.int .u8 n).wf = true
theorem byte_of_wf {a : Int} (h : (Lit.int .u8 a).wf = true) : 0 ≤ a ∧ a < 256 := by
  simp only [Lit.wf, IntKind.min, IntKind.max, IntKind.signed, IntKind.bits, Bool.and_eq_true] at h
  have h1 := h.1
  have h2 := h.2
  simp at h1 h2
  omega
theorem Came.rs {w : World} {a : Option Addr} {len cap : Nat} {zs : List Int} (h : Came w a len cap zs) : ∃ xs : List Nat, xs.length = len ∧ RS w a cap xs ∧ ∀ ad, a = some ad → 0 < cap → ad.block < w.heap.size := by
  rcases h with ⟨rfl, rfl, rfl, rfl⟩ | ⟨x, rfl, hl, hm, hz, hc, hw⟩
  · exact ⟨[], rfl, RS.nil w, fun _ e => nomatch e⟩
  · refine ⟨(zs.take len).map Int.toNat, by simp; omega, ⟨by simp; omega, hm, ?_, ?_⟩, ?_⟩
    · intro y hy
      simp only [List.mem_map] at hy
      obtain ⟨n, hn, rfl⟩ := hy
      have := byte_of_wf (hw n (List.mem_of_mem_take hn))
      omega
    · intro j hj
      simp only [List.length_map, List.length_take] at hj
      refine ⟨x, rfl, ?_⟩
      rw [hc j (by omega)]
      have hj2 : j < zs.length := by omega
      have := byte_of_wf (hw zs[j] (List.getElem_mem hj2))
      unfold bc
      congr 2
      simp only [List.getD_eq_getElem?_getD, List.getElem?_map, List.getElem?_take, if_pos (show j < len by omega), List.getElem?_eq_getElem hj2, Option.map_some, Option.getD_some]
      omega
    · intro ad e h0
      cases e
      have := lt_of_cell (hc 0 (by omega))
      rwa [add_block] at this
theorem own_lit (w : World) : (w.alloc (.cells #[] 5)).ownsRow w.heap.size 5 1 (.slice (some ⟨w.heap.size, 0, none⟩) 0 0) 0 (bs []) :=
  World.ownsRow_made w #[] 0 (Nat.le_refl _) (by simp [maxLen]) rfl
set_option maxRecDepth 100000 in
set_option maxHeartbeats 4000000 in
theorem from_long {A : Option Addr} {n c : Nat} (hn : 70000 < n) (a : Int) (w : World) : Calls Try.prog 4 #[.slice A n c, .int .i32 a] w fun e w' => e = .returned (.bool true) ∧ Below w.heap.size w w' := by
  have h : (70000 : Int) < (n : Int) := by omega
  clear hn
  go_enter Try.func4, Try.ntmps4
  go_wp2_with (go_at_call 13; (with_reducible refine (head_any _).mono ?_); rintro e w' ⟨rfl, g1⟩; have H1 := Lib.hid g1; clear g1)
  go_ret
  exact ⟨rfl, g_below0 H1.out⟩
set_option maxRecDepth 100000 in
set_option maxHeartbeats 4000000 in
theorem from_no {A : Option Addr} {c : Nat} {xs : List Nat} {w : World} (R : RS w A c xs) (hn : xs.length ≤ 70000) (hm : may xs.length = false) (a : Int) : Calls Try.prog 4 #[.slice A xs.length c, .int .i32 a] w fun e w' => e = .returned (.bool true) ∧ Below w.heap.size w w' := by
  have h : ¬ (70000 : Int) < (xs.length : Int) := by omega
  have HR := Lib.hid R
  have HN := Lib.hid hn
  have HB := Lib.hid R.by_
  have C := Lib.hid (fun (A1 : Option Addr) (c1 : Nat) (w1 : World) => From_no (A := A1) (c := c1) hm w1)
  have M := Lib.hid (fun (w1 : World) => at_ (May_any xs.length w1) (ret_b hm))
  have S := Lib.hid (fun (A1 : Option Addr) (c1 : Nat) (w1 : World) (R1 : RS w1 A1 c1 xs) (R2 : RS w1 A c xs) => Same_any R1 R2)
  clear R hm hn
  generalize hL : xs.length = L at *
  have HL := Lib.hid hL
  clear hL
  go_enter Try.func4, Try.ntmps4
  go_wp2_with (first
    | (at_builtin; refine app_bytes rfl (.tmp 19) (.tmp 20) rfl w.heap.size 0 0 L c L (some ⟨w.heap.size, 0, none⟩) A [] xs rfl rfl (own_lit w) HL.out (HR.out.kept0 (World.grownBy_alloc w _ none)).rd (by omega) (by have := HN.out; omega) (by simp) ?_; intro A1 c1 w1 o1 g1; have O1 := Lib.hid (And.intro (g_app (World.grownBy_alloc w _ none) (own_lit w) g1) (rs_of_own o1 HL.out.symm HB.out)); clear o1 g1)
    | (go_at_call 18; (with_reducible refine (C.out _ _ _).mono ?_); rintro e w2 ⟨rfl, rfl⟩)
    | (go_at_call 11; (with_reducible refine (M.out _).mono ?_); rintro e w2 ⟨rfl, rfl⟩)
    | (go_at_call 15; (with_reducible refine (S.out _ _ _ O1.out.2.1 (HR.out.kept0 O1.out.1)).mono ?_); rintro e w2 ⟨rfl, rfl⟩)
    | (go_at_call 13; (with_reducible refine (head_any _).mono ?_); rintro e w' ⟨rfl, g1⟩; have H1 := Lib.hid g1; clear g1))
  go_ret
  exact ⟨rfl, g_below0 (g_trans O1.out.1 H1.out)⟩
set_option maxRecDepth 100000 in
set_option maxHeartbeats 8000000 in
theorem from_ok {A : Option Addr} {c : Nat} {xs : List Nat} {w : World} (R : RS w A c xs) (hm : may xs.length = true) {a : Int} (ha : isW a) : Calls Try.prog 4 #[.slice A xs.length c, .int .i32 a] w fun e w' => e = .returned (.bool true) ∧ Below w.heap.size w w' := by
  have hh : 1024 ≤ xs.length ∧ xs.length ≤ 65536 ∧ xs.length % 4 = 0 := by unfold may at hm; simp at hm; omega
  have h : ¬ (70000 : Int) < (xs.length : Int) := by omega
  have HR := Lib.hid R
  have HN := Lib.hid hh
  have HB := Lib.hid R.by_
  have C := Lib.hid (fun (A1 : Option Addr) (c1 : Nat) (w1 : World) (R1 : RS w1 A1 c1 xs) => From_ok hm R1)
  have M := Lib.hid (fun (w1 : World) => at_ (May_any xs.length w1) (ret_b hm))
  have S := Lib.hid (fun (A1 : Option Addr) (c1 : Nat) (w1 : World) (R1 : RS w1 A1 c1 xs) (R2 : RS w1 A c xs) => Same_any R1 R2)
  have CB := Lib.hid (fun (w1 : World) (p g : Nat) (M1 : MemAt w1 p g xs) => Bytes_any M1)
  have CW := Lib.hid (fun (w1 : World) (p g : Nat) (M1 : MemAt w1 p g xs) => Word_any M1 ha)
  have CR := Lib.hid (fun (w1 : World) (R1 : RS w1 A c xs) => rWord_any R1 hh.2.1 hh.2.2 ha)
  clear R hm
  have hb : xs.length ≤ 65536 := hh.2.1
  have h1 : 1024 ≤ xs.length := hh.1
  clear hh ha
  generalize er xs.length (wx a) 4 = E at *
  generalize wv xs (wx a) = V at *
  generalize hL : xs.length = L at *
  have HL := Lib.hid hL
  clear hL
  go_enter Try.func4, Try.ntmps4
  go_wp2_with (first
    | (at_builtin; refine app_bytes rfl (.tmp 19) (.tmp 20) rfl w.heap.size 0 0 L c L (some ⟨w.heap.size, 0, none⟩) A [] xs rfl rfl (own_lit w) HL.out (HR.out.kept0 (World.grownBy_alloc w _ none)).rd (by omega) (by omega) (by simp) ?_; intro A1 c1 w1 o1 g1; have O1 := Lib.hid (And.intro (g_app (World.grownBy_alloc w _ none) (own_lit w) g1) (And.intro (rs_of_own o1 HL.out.symm HB.out) o1)); clear o1 g1)
    | (go_at_call 18; (with_reducible refine (C.out _ _ _ O1.out.2.1.1).mono ?_); rintro e w2 ⟨p, rfl, g, hp, hg, g2, M2⟩; have H2 := Lib.hid (And.intro (And.intro hp hg) (And.intro g2 M2)); clear hp hg g2 M2)
    | (go_at_call 11; (with_reducible refine (M.out _).mono ?_); rintro e w3 ⟨rfl, rfl⟩)
    | (go_at_call 15; (with_reducible refine (S.out _ _ _ (O1.out.2.1.1.kept0 H2.out.2.1) (HR.out.kept0 (g_trans O1.out.1 H2.out.2.1))).mono ?_); rintro e w3 ⟨rfl, rfl⟩))
  obtain ⟨k0, hk0, hk1, hA, hW⟩ : ∃ k, w.heap.size ≤ k ∧ k < w1.heap.size ∧ A1 = some ⟨k, 0, none⟩ ∧ WB w2 k L := by
    have o := O1.out.2.2
    rw [List.nil_append, ← HL.out] at o
    obtain ⟨k, hB, e⟩ := OwnB.wb (xs := xs) o w.heap.size (Nat.le_refl _)
    rcases e with ⟨e, _⟩ | ⟨e, hw⟩
    · have := HL.out; omega
    · obtain ⟨cur, hc, _⟩ := id hw
      exact ⟨k, hB, heap_lt hc, e, by rw [← HL.out]; exact hw.kept H2.out.2.1⟩
  subst hA
  have F1 : Hid (w.grownBy w2 none ∧ MemAt w2 p g xs ∧ p ≠ k0 ∧ g ≠ k0) := Lib.hid ⟨g_trans O1.out.1 H2.out.2.1, H2.out.2.2, by have := H2.out.1.1; omega, by have := H2.out.1.2; omega⟩
  have HW := Lib.hid hW
  clear hW O1 H2
  generalize w2 = W2 at *
  go_loopw [8] (fun i wr => ∃ k : Nat, k ≤ L ∧ i = .int .i64 k ∧ Hid (W2.grownBy wr (some k0) ∧ WB wr k0 L)) (fun i _ => L - (intOf i).toNat)
  case atStart => exact ⟨0, Nat.zero_le _, rfl, World.grownBy.refl _ _, HW.out⟩
  case round =>
    obtain ⟨k, hk, rfl, hw⟩ := hrel
    by_cases hlt : (k : Int) < (L : Int)
    · obtain ⟨u, hu, hf⟩ := hw.out.2.cell (j := k) (by omega)
      have HS := Lib.hid (fun v => hw.out.2.set k v)
      have hk0' : (0 : Int) ≤ (k : Int) := by omega
      go_wp2
      go_roundw
      case rel => exact ⟨k + 1, by omega, by go_num, g_trans hw.out.1 (g_set _ _ _ _), HS.out _⟩
      case measure => simp [intOf]; omega
    · obtain rfl : L = k := by omega
      have F2 : Hid (w.grownBy wr none ∧ MemAt wr p g xs) := Lib.hid ⟨g_new F1.out.1 hw.out.1 hk0, F1.out.2.1.kept hw.out.1 (by intro e; cases e; exact F1.out.2.2.1 rfl) (by intro e; cases e; exact F1.out.2.2.2 rfl)⟩
      clear hw HW F1
      go_wp2_with (first
        | (go_at_call 16; (with_reducible refine (CB.out _ _ _ F2.out.2).mono ?_); rintro e w3 ⟨rfl, g3, r3⟩; have F3 := Lib.hid (And.intro (And.intro (g_trans F2.out.1 g3) (F2.out.2.kept0 g3)) (And.intro (WB.row r3) (And.intro F2.out.1.size (And.intro F2.out.2.plt F2.out.2.glt)))); clear g3 r3))
      rw [HL.out] at F3
      generalize wr.heap.size = k1 at *
      generalize w3 = W3 at *
      clear F2
      go_loopw [10] (fun i wr => ∃ k : Nat, k ≤ L ∧ i = .int .i64 k ∧ Hid (W3.grownBy wr (some k1) ∧ WB wr k1 L)) (fun i _ => L - (intOf i).toNat)
      case atStart => exact ⟨0, Nat.zero_le _, rfl, World.grownBy.refl _ _, F3.out.2.1⟩
      case round =>
        obtain ⟨k, hk, rfl, hw⟩ := hrel
        by_cases hlt : (k : Int) < (L : Int)
        · obtain ⟨u, hu, hf⟩ := hw.out.2.cell (j := k) (by omega)
          have HS := Lib.hid (fun v => hw.out.2.set k v)
          have hk0' : (0 : Int) ≤ (k : Int) := by omega
          go_wp2
          go_roundw
          case rel => exact ⟨k + 1, by omega, by go_num, g_trans hw.out.1 (g_set _ _ _ _), HS.out _⟩
          case measure => simp [intOf]; omega
        · obtain rfl : L = k := by omega
          have F4 : Hid (w.grownBy wr none ∧ MemAt wr p g xs) := Lib.hid ⟨g_new F3.out.1.1 hw.out.1 F3.out.2.2.1, F3.out.1.2.kept hw.out.1 (by intro e; cases e; exact Nat.lt_irrefl _ F3.out.2.2.2.1) (by intro e; cases e; exact Nat.lt_irrefl _ F3.out.2.2.2.2)⟩
          clear hw F3
          go_wp2_with (first
            | (go_at_call 19; (with_reducible refine (CW.out _ _ _ F4.out.2).mono ?_); rintro e w4 ⟨rfl, g4⟩; have F5 := Lib.hid (And.intro (g_trans F4.out.1 g4) (F4.out.2.kept0 g4)); clear g4)
            | (go_at_call 20; (with_reducible refine (CR.out _ (HR.out.kept0 F5.out.1)).mono ?_); rintro e w5 ⟨rfl, g5⟩; have F6 := Lib.hid (And.intro (g_trans F5.out.1 g5) (F5.out.2.kept0 g5)); clear g5)
            | (go_at_call 16; (with_reducible refine (CB.out _ _ _ F6.out.2).mono ?_); rintro e w6 ⟨rfl, g6, r6⟩; have F7 := Lib.hid (And.intro (g_trans F6.out.1 g6) (rs_of_row r6 (by have := HL.out; unfold maxLen; omega) HB.out)); rw [HL.out] at F7; clear g6 r6)
            | (go_at_call 15; (with_reducible refine (S.out _ _ _ F7.out.2 (HR.out.kept0 F7.out.1)).mono ?_); rintro e w7 ⟨rfl, rfl⟩)
            | (go_at_call 13; (with_reducible refine (head_any _).mono ?_); rintro e w8 ⟨rfl, g8⟩; have F8 := Lib.hid g8; clear g8))
          go_ret
          exact ⟨rfl, g_below0 (g_trans F7.out.1 F8.out)⟩
theorem walkMemFrom (a0 : Option Addr) (len0 cap0 : Nat) (z0 : List Int) (a1 : Int) (w : World) (w0 : Came w a0 len0 cap0 z0) (w1 : (Lit.int .i32 a1).wf = true) :
    Calls Try.prog 4 #[.slice a0 len0 cap0, .int .i32 a1] w fun e w' => e = .returned (.bool true) ∧ Below w.heap.size w w' := by
  obtain ⟨xs, rfl, R, _⟩ := w0.rs
  by_cases h : 70000 < xs.length
  · exact from_long h a1 w
  · rcases hm : may xs.length with _ | _
    · exact from_no R (by omega) hm a1
    · exact from_ok R hm (isW_of_wf w1)
end Go.Proofs.Ytjdinppblejcdaa
