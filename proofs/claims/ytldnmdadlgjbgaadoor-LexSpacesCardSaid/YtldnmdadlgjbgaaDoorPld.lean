/- The program's reader of a line: its box, and what passes over bytes of it. -/
import Derived.Test.YtldnmdadlgjbgaaDoorPlc
import Derived.Deep.LoopGhost
set_option linter.unusedVariables false
set_option linter.unusedSimpArgs false
namespace Go.Proofs.YtldnmdadlgjbgaaDoor
open Go Go.RowKit L8

/-! ### Frames: one block may turn -/
theorem g_any {a b : World} (h : a.grownBy b none) (r : Option Nat) : a.grownBy b r := ⟨h.os, h.tape, h.output, h.size, fun k hk _ => h.block k hk (by simp)⟩
theorem g_set (w : World) (b j : Nat) (v : Value) : w.grownBy (w.setCell ⟨b, j, none⟩ v) (some b) :=
  ⟨rfl, rfl, rfl, by show _ ≤ (w.heap.modify b _).size; rw [Array.size_modify]; exact Nat.le_refl _, fun k hk hr => Below.heap_setCell w ⟨b, j, none⟩ v k (fun e => hr (by rw [show k = b from e]))⟩
theorem g_setN {w W : World} {r : Option Nat} (h : w.grownBy W r) {B j : Nat} (hB : w.heap.size ≤ B) (v : Value) : w.grownBy (W.setCell ⟨B, j, none⟩ v) r :=
  ⟨h.os, h.tape, h.output, by show _ ≤ (W.heap.modify B _).size; rw [Array.size_modify]; exact h.size, fun k hk hr => (Below.heap_setCell W ⟨B, j, none⟩ v k (fun e => by have e2 : k = B := e; omega)).trans (h.block k hk hr)⟩
theorem g_refl (w : World) (r : Option Nat) : w.grownBy w r := g_any (g_of_below (b0 w)) r
theorem below_g {n b : Nat} {w w' : World} (h : w.grownBy w' (some b)) (hb : n ≤ b) (hn : n ≤ w.heap.size) : Below n w w' :=
  ⟨h.os, h.tape, h.output, h.size, fun k hk => h.block k (by omega) (fun e => by injection e with e; omega)⟩
/-! ### The reader -/
def Rd (w : World) (b : Nat) (L : Bs) (p : Nat) : Prop := BoxS w b 62 #[.string (strOf L), .int .i64 (p : Int)]
theorem Rd.below {X Y : World} {b p : Nat} {L : Bs} (h : Rd X b L p) (k : Below X.heap.size X Y) : Rd Y b L p := BoxS.below h k
theorem Rd.cells {w : World} {b p : Nat} {L : Bs} (h : Rd w b L p) : w.cell? ⟨b, 0, none⟩ = some (.string (strOf L)) ∧ w.cell? ⟨b, 1, none⟩ = some (.int .i64 (p : Int)) ∧ w.frozen? ⟨b, 1, none⟩ = false ∧ b < w.heap.size :=
  ⟨(BoxS.cell h 0).trans rfl, (BoxS.cell h 1).trans rfl, BoxS.frozen h 1, BoxS.lt h⟩
theorem Rd.set {w : World} {b p : Nat} {L : Bs} (h : Rd w b L p) (q : Nat) : Rd (w.setCell ⟨b, 1, none⟩ (.int .i64 (q : Int))) b L q := by
  obtain ⟨hlt, hk⟩ := Array.getElem?_eq_some_iff.1 (show w.heap[b]? = _ from h)
  show (w.heap.modify b _)[b]? = _
  rw [Array.getElem?_eq_getElem (by rw [Array.size_modify]; exact hlt), Array.getElem_modify_self, hk]
  rfl
theorem Rd.tab {w w' : World} {b p : Nat} {L : Bs} (h : Rd w b L p) (ht : W1.Tab w) (g : w.grownBy w' (some b)) : W1.Tab w' := by
  unfold W1.Tab Lib.TabIs World.var? at *
  cases hg : Tryd.prog.globalNamed "internal/strconv.uint64pow10" with
  | none => simp [hg] at ht
  | some q =>
    simp only [hg, Option.bind_some] at ht ⊢
    have hlt : q < w.heap.size := by
      rcases Nat.lt_or_ge q w.heap.size with h' | h'
      · exact h'
      · rw [Array.getElem?_eq_none h'] at ht; simp at ht
    have hne : q ≠ b := by
      rintro rfl
      have h2 : w.heap[q]? = some (.cells #[.string (strOf L), .int .i64 (p : Int)] 62 (0, 0)) := h
      rw [h2] at ht
      simp only [Option.some.injEq] at ht
      have := congrArg (fun a => a.size) ht
      simp [Lib.pow10Tab] at this
    rw [g.block q hlt (fun e => hne (by injection e))]
    exact ht
def ReadR (w w' : World) (b : Nat) (L : Bs) (q : Nat) : Prop := Rd w' b L q ∧ w.grownBy w' (some b)
set_option maxRecDepth 100000 in
set_option maxHeartbeats 4000000 in
theorem take_any {b p m : Nat} {L : Bs} {w : World} (h : Rd w b L p) (hL : L.length ≤ 256) (hm : p + m ≤ L.length) : Calls Tryd.prog 69 #[.pointer (some ⟨b, 0, none⟩), .int .i64 (m : Int)] w fun e w' => e = .returned (.string (strOf ((L.drop p).take m))) ∧ ReadR w w' b L (p + m) := by
  obtain ⟨c0, c1, f1, hb⟩ := h.cells
  have hcut : ∀ W : World, (Instr.slice 9 (.string (strOf L)) (some (.int .i64 (p : Int))) (some (.int .i64 ((p : Int) + (m : Int)))) none).run Tryd.prog W = .ok (.string (strOf ((L.drop p).take m))) W := fun W => by
    have := cut_mid L p (p + m) (by omega) hm W
    rw [List.drop_take, show p + m - p = m by omega, show ((p + m : Nat) : Int) = (p : Int) + (m : Int) by omega] at this
    exact this
  have hp0 : (0 : Int) ≤ (p : Int) := by omega
  have hm0 : (0 : Int) ≤ (m : Int) := by omega
  have hp1 : (p : Int) ≤ 256 := by omega
  have hm1 : (m : Int) ≤ 256 := by omega
  have hs0 : (0 : Int) ≤ (p : Int) + (m : Int) := by omega
  have hs1 : IntKind.i64.wrap ((p : Int) + (m : Int)) = (p : Int) + (m : Int) := IntWalk.i64_in _ (by omega)
  have HR := Lib.hid (fun n => (h.below (bdrew (b0 w) n)).set (p + m))
  have HG := Lib.hid (fun n (v : Value) => g_trans (g_any (g_of_below (bdrew (b0 w) n)) (some b)) (g_set (w.drewN n) b 1 v))
  have e1 : ((p + m : Nat) : Int) = (p : Int) + (m : Int) := by omega
  rw [e1] at HR
  clear h hm hL e1 hb
  generalize strOf ((L.drop p).take m) = T at *
  unfold ReadR
  generalize strOf L = S at *
  go_enter Tryd.func69, Tryd.ntmps69
  go_wp2
  go_quiet (fail)
  go_wp2
  go_ret
  exact ⟨rfl, HR.out _, HG.out _ _⟩
set_option maxRecDepth 100000 in
set_option maxHeartbeats 4000000 in
theorem rest_any {b p : Nat} {L : Bs} {w : World} (h : Rd w b L p) (hL : L.length ≤ 256) (hp : p ≤ L.length) : Calls Tryd.prog 70 #[.pointer (some ⟨b, 0, none⟩)] w fun e w' => e = .returned (.string (strOf (L.drop p))) ∧ Below w.heap.size w w' := by
  obtain ⟨c0, c1, f1, hb⟩ := h.cells
  have hcut := cut_from L p hp
  have hp0 : (0 : Int) ≤ (p : Int) := by omega
  have HB := Lib.hid (fun n => bdrew (b0 w) n)
  clear h hp hL hb
  generalize strOf (L.drop p) = T at *
  generalize strOf L = S at *
  go_enter Tryd.func70, Tryd.ntmps70
  go_wp2
  go_quiet (fail)
  go_wp2
  go_ret
  exact ⟨rfl, HB.out _⟩
/-! ### Spaces -/
def SkipR (w : World) (b : Nat) (L : Bs) (p : Nat) (e : Ending) (w' : World) : Prop :=
  ∃ q, p ≤ q ∧ q ≤ L.length ∧ (∀ j, p ≤ j → j < q → L.getD j 0 = 32) ∧ (q < L.length → L.getD q 0 ≠ 32) ∧ e = .returned (.bool (decide (q < L.length))) ∧ ReadR w w' b L q
set_option maxRecDepth 100000 in
set_option maxHeartbeats 8000000 in
theorem skip_any {b p : Nat} {L : Bs} {w : World} (h : Rd w b L p) (hL : L.length ≤ 256) (hp : p ≤ L.length) : Calls Tryd.prog 32 #[.pointer (some ⟨b, 0, none⟩)] w (SkipR w b L p) := by
  have hsz := size_strOf L
  obtain ⟨n, hn⟩ : ∃ n, L.length = n := ⟨_, rfl⟩
  rw [hn] at hsz hL hp
  have hn0 : (0 : Int) ≤ (n : Int) := by omega
  have hn1 : (n : Int) ≤ 256 := by omega
  have HM := Lib.hid hn
  have H0 := Lib.hid h
  clear h hn
  go_enter Tryd.func32, Tryd.ntmps32
  go_wp2
  go_loopg [] (n - p) (fun g wr => ∃ k, p ≤ k ∧ k ≤ n ∧ g = n - k ∧ Hid ((∀ j, p ≤ j → j < k → L.getD j 0 = 32) ∧ ReadR w wr b L k))
  case atStart => exact ⟨p, Nat.le_refl _, hp, rfl, Lib.hid ⟨fun j h1 h2 => absurd h1 (by omega), H0.out, g_refl w _⟩⟩
  case round =>
    obtain ⟨k, hpk, hk, rfl, H⟩ := hrel
    obtain ⟨c0, c1, f1, hb⟩ := H.out.2.1.cells
    have hk0 : (0 : Int) ≤ (k : Int) := by omega
    have hk256 : (k : Int) ≤ 256 := by omega
    by_cases hkn : k < n
    · have qd : decide ((k : Int) < (n : Int)) = true := decide_eq_true (by omega)
      have qd' : decide (k < n) = true := decide_eq_true hkn
      have hi := index_l L k (by have := HM.out; omega)
      have hx := byte_eq (L.getD k 0) 32 (by decide) 32 rfl
      have hs1 : IntKind.i64.wrap ((k : Int) + 1) = (k : Int) + 1 := IntWalk.i64_in _ (by omega)
      by_cases h32 : L.getD k 0 = 32
      · rw [decide_eq_true h32] at hx
        have hx' : (((L.getD k 0).toNat : Int) == 32) = true := hx
        have HN := Lib.hid (fun m (v : Value) => g_trans (g_trans H.out.2.2 (g_any (g_of_below (bdrew (b0 wr) m)) (some b))) (g_set (wr.drewN m) b 1 v))
        have HR := Lib.hid (fun m => (H.out.2.1.below (bdrew (b0 wr) m)).set (k + 1))
        have HJ := Lib.hid (show ∀ j, p ≤ j → j < k + 1 → L.getD j 0 = 32 from fun j h1 h2 => if h : j < k then H.out.1 j h1 h else by rw [show j = k by omega]; exact h32)
        have e1 : ((k + 1 : Nat) : Int) = (k : Int) + 1 := by omega
        rw [e1] at HR
        clear H h32 e1 hx
        generalize (L.getD k 0).toNat = M at *
        generalize strOf L = S at *
        go_wp2
        go_quiet (fail)
        go_wp2
        go_roundg (n - (k + 1))
        case rel => exact ⟨k + 1, by omega, by omega, rfl, Lib.hid ⟨HJ.out, HR.out _, HN.out _ _⟩⟩
        case measure => omega
      · rw [decide_eq_false h32] at hx
        have hx' : (((L.getD k 0).toNat : Int) == 32) = false := hx
        have HE := Lib.hid (fun m m' => show SkipR w b L p (.returned (.bool true)) ((wr.drewN m).drewN m') from ⟨k, hpk, by have := HM.out; omega, H.out.1, fun _ => h32, by rw [HM.out, qd'], (H.out.2.1.below (bdrew (b0 wr) m)).below (bdrew (b0 _) m'), g_trans (g_trans H.out.2.2 (g_any (g_of_below (bdrew (b0 wr) m)) (some b))) (g_any (g_of_below (bdrew (b0 _) m')) (some b))⟩)
        clear H h32 hx
        generalize (L.getD k 0).toNat = M at *
        generalize SkipR w b L p = P at *
        generalize strOf L = S at *
        go_wp2
        go_quiet (fail)
        go_wp2
        go_quiet (fail)
        go_wp2
        exact HE.out _ _
    · obtain rfl : k = n := by omega
      have qd : decide ((k : Int) < (k : Int)) = false := decide_eq_false (by omega)
      have qd' : decide (k < k) = false := decide_eq_false (by omega)
      have HE := Lib.hid (fun m m' => show SkipR w b L p (.returned (.bool false)) ((wr.drewN m).drewN m') from ⟨k, hpk, by have := HM.out; omega, H.out.1, fun h => absurd h (by have := HM.out; omega), by rw [HM.out, qd'], (H.out.2.1.below (bdrew (b0 wr) m)).below (bdrew (b0 _) m'), g_trans (g_trans H.out.2.2 (g_any (g_of_below (bdrew (b0 wr) m)) (some b))) (g_any (g_of_below (bdrew (b0 _) m')) (some b))⟩)
      clear H
      generalize SkipR w b L p = P at *
      generalize strOf L = S at *
      go_wp2
      go_quiet (fail)
      go_wp2
      go_quiet (fail)
      go_wp2
      exact HE.out _ _
end Go.Proofs.YtldnmdadlgjbgaaDoor
