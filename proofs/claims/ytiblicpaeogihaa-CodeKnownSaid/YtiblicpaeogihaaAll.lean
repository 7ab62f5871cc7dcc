/- The iterator over the instructions of a sequence of bytes, and its caller. -/
import Derived.RangeFuncNested
import Derived.RangeFuncBound
import Derived.RangeFuncCalls
import Derived.RangeFuncLeaves
import Derived.Shelf.Abstract
import Derived.Shelf.RegionOpen
import Derived.Test.YtiblicpaeogihaaItems
import Derived.OwnWalkIn
import Derived.TacticsInMore
import Derived.LoopNIn
import Derived.LoopIn
import Derived.Maps.AppendAt
namespace Go.Proofs.Ytiblicpaeogihaa
open Go Go.RowKit Go.Shelf
attribute [local go_sem] Oper.semAt_some

def encG (x : Got) : Array Value := #[.agg #[.int .u8 (x.fn : Int), .int .i32 x.arg], .int .i64 x.e]
/-- What a round keeps: what lay ahead of the call, and the box of the bytes. -/
def Kpt (n₀ Bs : Nat) (W W' : World) : Prop := Below n₀ W W' ∧ ∀ v, Boxed W Bs 24 v → Boxed W' Bs 24 v
theorem kpt_t {n₀ Bs : Nat} {A B C : World} (h : Kpt n₀ Bs A B) (k : Kpt n₀ Bs B C) : Kpt n₀ Bs A C := ⟨h.1.trans k.1, fun v hv => k.2 v (h.2 v hv)⟩
theorem RS.below {w w' : World} {A : Option Addr} {c : Nat} {xs : List Nat} (h : RS w A c xs) (b : Below w.heap.size w w') : RS w' A c xs :=
  ⟨h.le, h.mx, h.by_, fun j hj => by
    obtain ⟨ad, e, hc⟩ := h.rd j hj
    refine ⟨ad, e, (b.cell ?_).trans hc⟩
    have := lt_of_cell hc
    exact this⟩
theorem below_g {B : Nat} {w a b : World} (h : Below B w a) (hB : B ≤ a.heap.size) (g : a.grownBy b none) : Below B w b := h.trans ((g_below0 g).mono hB)
def GetIn (F : Fence) (m : Nat) : Prop := ∀ (w1 : World) (A1 : Option Addr) (c1 : Nat) (xs1 : List Nat) (f : Nat) (v : Int) (q : Nat) (e : Int) (m1 : Nat), RS w1 A1 c1 xs1 → m1 = xs1.length → get xs1 = ⟨f, v, q, e⟩ →
  CallsIn F m Try.prog 18 #[.slice A1 m1 c1] w1 fun e' w' => e' = .returned (.tuple #[.agg #[.int .u8 (f : Int), .int .i32 v], .int .i64 (q : Int), .int .i64 e]) ∧ w1.grownBy w' none
set_option maxRecDepth 100000 in
set_option maxHeartbeats 4000000 in
theorem iter_in (F : Fence) (n : Nat) (hF : ∀ f, F.fn f) (hro : F.round = none) (hn : 1 ≤ n) (hG : GetIn F (n - 1)) (l Bs : Nat) {w : World} {A : Option Addr} {c L : Nat} {xs : List Nat} (R : RS w A c xs) (hL : xs.length = L)
    (J Jx : List Got → World → Prop) (hJ : ∀ s X Y, J s X → X.grownBy Y none → J s Y)
    (hY : ∀ pre x W, J pre W → pre.length < (items xs).length → YieldAt F (n - 1) Try.prog l (encG x) W fun e W' =>
      (e = .returned (.bool true) ∧ J (pre ++ [x]) W' ∧ Kpt w.heap.size Bs W W') ∨ (e = .returned (.bool false) ∧ Jx (pre ++ [x]) W'))
    (W : World) (hW : Below w.heap.size w W) (hB : Boxed W Bs 24 (.slice A L c)) (h0 : J [] W) :
    CallsIn F n Try.prog 35 #[.func (.yield l) #[] #[], .pointer (some ⟨Bs, 0, none⟩)] W fun e W' => (∃ v, e = .returned v) ∧
      ((∃ ys, ys = items xs ∧ J ys W') ∨ (∃ pre, pre <+: items xs ∧ Jx pre W')) := by
  have hm := R.le
  have hm2 := R.mx
  rw [hL] at hm
  unfold maxLen at hm2
  refine callsIn_of_wp Try.func35 rfl (hF _) ?_ hro
  simp only [Try.ntmps35, List.size_toArray, List.length_cons, List.length_nil, Nat.reduceAdd, Nat.reduceSub, Array.replicate_succ, Array.replicate_zero, List.push_toArray, List.append_toArray, List.nil_append, List.cons_append]
  gi_wp2
  gi_loopw [3] (fun i wr => ∃ (k : Nat) (pre : List Got), k ≤ L ∧ i = .int .i64 k ∧ Hid (J pre wr ∧ Upto xs k pre ∧ Below w.heap.size w wr ∧ Boxed wr Bs 24 (.slice A L c))) (fun i _ => L - (intOf i).toNat)
  case atStart => exact ⟨0, [], Nat.zero_le _, rfl, h0, upto_start xs, hW, hB⟩
  case round =>
    obtain ⟨k, pre, hk, rfl, H⟩ := hrel
    have cB := H.out.2.2.2.cell
    by_cases hlt : k < L
    · have hkl : k < xs.length := by omega
      obtain ⟨f, v, q, e, hGt⟩ : ∃ f v q e, get (xs.drop k) = ⟨f, v, q, e⟩ := ⟨_, _, _, _, rfl⟩
      have CG := Lib.hid (hG wr _ _ _ f v q e (L - k) ((R.below H.out.2.2.1).from_ k) (by rw [List.length_drop, hL]) hGt)
      have HY := Lib.hid (fun (w5 : World) (g5 : wr.grownBy w5 none) => hY pre ⟨f, v, q, e⟩ w5 (hJ _ _ _ H.out.1 g5) (upto_less H.out.2.1 hkl))
      have r1 : ¬ c = k := by omega
      have r2 : (0 : Int) ≤ (k : Int) := by omega
      have r3 : (k : Int) ≤ (L : Int) := by omega
      have r4 : (k : Int) ≤ (c : Int) := by omega
      by_cases he : e = 0
      · subst he
        have hq : 0 < q ∧ q ≤ L - k := by
          have := gt_n (m := 16) (o := 0) (k := 0) (xs := xs.drop k) (by show (get (xs.drop k)).e = 0; rw [hGt])
          have e2 : (gt 16 0 0 (xs.drop k)).n = q := by show (get (xs.drop k)).n = q; rw [hGt]
          rw [e2, List.length_drop, hL] at this
          omega
        have HU := Lib.hid (upto_next H.out.2.1 hkl (by rw [hGt]))
        have HP := Lib.hid (upto_pre H.out.2.1 hkl)
        rw [hGt] at HU HP
        clear hGt
        gi_wp2_with (gi_at_call 18; refine CG.out.mono ?_; rintro e5 w5 ⟨rfl, g5⟩; have G5 := Lib.hid (g_trans g5 (World.grownBy_alloc w5 (.cells #[.int .u8 (f : Int), .int .i32 v] 23) none)); clear g5; obtain ⟨fn, tmps, assign, body, hy, hR⟩ := HY.out _ G5.out; dsimp only [encG] at hy)
        have HB5 := Lib.hid (And.intro (below_g H.out.2.2.1 H.out.2.2.1.size G5.out) (H.out.2.2.2.kept G5.out (by simp)))
        refine hR.mono ?_
        rintro e6 W3 (⟨rfl, hJ3, hk3⟩ | ⟨rfl, hJx3⟩)
        · have H3 := Lib.hid (And.intro hJ3 (And.intro (HB5.out.1.trans hk3.1) (hk3.2 _ HB5.out.2)))
          clear hJ3 hk3 hR hy
          gi_wp2
          go_roundw
          case rel => exact ⟨k + q, _, by omega, by go_num, H3.out.1, HU.out, H3.out.2.1, H3.out.2.2⟩
          case measure => simp [intOf]; omega
        · clear hR hy
          gi_wp2
          refine bodyPost_ret (results_none rfl _ _ _) rfl ?_
          exact ⟨⟨_, rfl⟩, .inr ⟨_, HP.out, hJx3⟩⟩
      · have HI := upto_bad H.out.2.1 hkl (by rw [hGt]; exact he)
        rw [hGt] at HI
        have HI := Lib.hid HI
        have r5 : (e == 0) = false := by simpa using he
        have r6 : (e != 0) = true := by simpa using he
        clear hGt
        gi_wp2_with (gi_at_call 18; refine CG.out.mono ?_; rintro e5 w5 ⟨rfl, g5⟩; have G5 := Lib.hid (g_trans g5 (World.grownBy_alloc w5 (.cells #[.int .u8 (f : Int), .int .i32 v] 23) none)); clear g5; obtain ⟨fn, tmps, assign, body, hy, hR⟩ := HY.out _ G5.out; dsimp only [encG] at hy)
        refine hR.mono ?_
        rintro e6 W3 (⟨rfl, hJ3, hk3⟩ | ⟨rfl, hJx3⟩)
        · clear hk3 hR hy
          gi_wp2
          refine bodyPost_ret (results_none rfl _ _ _) rfl ?_
          exact ⟨⟨_, rfl⟩, .inl ⟨_, HI.out.symm, hJ3⟩⟩
        · clear hR hy
          gi_wp2
          refine bodyPost_ret (results_none rfl _ _ _) rfl ?_
          exact ⟨⟨_, rfl⟩, .inr ⟨_, by rw [HI.out]; exact List.prefix_refl _, hJx3⟩⟩
    · obtain rfl : k = L := by omega
      gi_wp2
      go_end0
      exact ⟨⟨_, rfl⟩, .inl ⟨pre, (upto_end (by rw [hL]; exact H.out.2.1)).symm, H.out.1⟩⟩
end Go.Proofs.Ytiblicpaeogihaa
