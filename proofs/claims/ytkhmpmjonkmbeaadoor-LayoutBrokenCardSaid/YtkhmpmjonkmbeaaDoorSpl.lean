/- The library's iterator over the lines of a text. -/
import Derived.Test.YtkhmpmjonkmbeaaDoorSoft
import Derived.Test.YtkhmpmjonkmbeaaDoorLbx
set_option linter.unusedVariables false
set_option linter.unusedSimpArgs false
namespace Go.Proofs.YtkhmpmjonkmbeaaDoor
open Go Go.RowKit Go.Shelf L7
attribute [local go_sem] Oper.semAt_some

/-- The boxes of strings and of numbers from b on stay as they were. -/
def KpT (b : Nat) (W W' : World) : Prop := ∀ B t v, b ≤ B → (t = 9 ∨ t = 3) → Boxed W B t v → Boxed W' B t v
theorem kpT_t {b : Nat} {X Y Z : World} (h : KpT b X Y) (k : KpT b Y Z) : KpT b X Z := fun B t v hB ht hv => k B t v hB ht (h B t v hB ht hv)
theorem boxed_put {W : World} {l B : Nat} {o o' : Obj} {t : TypeId} {v : Value} (hl : W.heap[l]? = some o) (ho : o.isCells = false) (hv : Boxed W B t v) : Boxed (W.putObj l o') B t v :=
  hv.kept (grownBy_putObj' W l o') (fun e => by cases e; rw [show W.heap[l]? = _ from hv] at hl; cases hl; cases ho)
/-- How long the text in a box is. -/
def boxLen (B : Nat) (W : World) : Nat := match W.cell? ⟨B, 0, none⟩ with | some (.string x) => x.size | _ => 0
theorem boxLen_of {B : Nat} {W : World} {r : Bs} (h : Boxed W B 9 (.string (strOf r))) : boxLen B W = r.length := by
  unfold boxLen
  rw [h.cell]
  exact size_strOf r
/-- What the iterator has handed out, and what is left. -/
def LnsAt (J : List Bs → World → Prop) (B E Z : Nat) (s : Bs) (W : World) : Prop :=
  ∃ pre r, J pre W ∧ lnsOf s = pre ++ lnsOf r ∧ Boxed W B 9 (.string (strOf r)) ∧ r.length ≤ 100000 ∧ Boxed W E 9 (.string ⟨#[10]⟩) ∧ Boxed W Z 3 (.int .i64 0)
set_option maxRecDepth 100000 in
set_option maxHeartbeats 4000000 in
theorem str_split {B E Z b : Nat} (hb : b ≤ B) (hbE : b ≤ E) (hbZ : b ≤ Z) (hBE : B ≠ E) (hBZ : B ≠ Z) {s : Bs} (hs : s.length ≤ 100000) {w0 : World} (hB : Boxed w0 B 9 (.string (strOf s))) (hE : Boxed w0 E 9 (.string ⟨#[10]⟩)) (hZ : Boxed w0 Z 3 (.int .i64 0)) :
    SeqS Tryd.prog (fun r => r = B) 92 #[.pointer (some ⟨E, 0, none⟩), .pointer (some ⟨B, 0, none⟩), .pointer (some ⟨Z, 0, none⟩)] (fun x : Bs => #[.string (strOf x)]) (KpT b) (fun ys => ys = lnsOf s) (fun pre => pre <+: lnsOf s) w0 := by
  intro l J Jx W hW hJ hJx hY h0
  have bW : Boxed W B 9 (.string (strOf s)) := (hW.block B hB.lt).trans hB
  have eW : Boxed W E 9 (.string ⟨#[10]⟩) := (hW.block E hE.lt).trans hE
  have zW : Boxed W Z 3 (.int .i64 0) := (hW.block Z hZ.lt).trans hZ
  have HJ := Lib.hid hJ
  have HY := Lib.hid hY
  have H0 := Lib.hid (show LnsAt J B E Z s W from ⟨[], s, h0, rfl, bW, hs, eW, zW⟩)
  have c1 := eW.cell
  clear hJ hY h0 bW hW hs hB hJx hE hZ zW
  refine callsIn_of_wp Tryd.func92 rfl trivial ?_ rfl
  simp only [Tryd.ntmps92, List.size_toArray, List.length_cons, List.length_nil, Nat.reduceAdd, Nat.reduceSub, Array.replicate_succ, Array.replicate_zero, List.push_toArray, List.append_toArray, List.nil_append, List.cons_append]
  gi_wp2
  clear c1 eW
  gi_loopw [7] (fun _ wr => Hid (LnsAt J B E Z s wr)) (fun _ wr => boxLen B wr)
  case atStart => exact H0
  case round =>
    obtain ⟨pre, r, hJ, hsp, hb1, hr, he1, hz1⟩ := hrel.out
    have hz := size_strOf r
    have hd : (strOf r).data.toList = r := rfl
    have hib := ib_upto r 10
    have c1 := hb1.cell
    have c2 := he1.cell
    have c3 := hz1.cell
    have f1 := hb1.frozen
    rcases rest_part r with ⟨hk, hno⟩ | ⟨hk, hno, hpart⟩
    · rw [if_neg (by omega)] at hib
      have CI := Lib.hid (fun (V : World) => (cIndex1 r V).mono (R' := fun e V' => e = .returned (.int .i64 (-1)) ∧ V' = V) (fun e V' h => by rw [h.1, hib]; exact ⟨rfl, h.2⟩))
      have hpre : pre ++ [r] = lnsOf s := by rw [hsp, lns_single hno]
      have HP := Lib.hid hpre
      obtain ⟨fn, tmps, asg, body, hy, hR⟩ := HY.out pre r _ hJ (by rw [hpre]; exact List.prefix_refl _)
      clear hsp hJ hr hb1 hrel hk hno hib hd hpre he1 hz1 hz
      generalize strOf r = R0 at *
      gi_wp2_with (refine ⟨trivial, rfl, ?_⟩; gi_at_call 46; refine (callsIn_wide.2 (CI.out _)).mono ?_; rintro e V ⟨rfl, rfl⟩)
      refine ⟨rfl, hR.mono ?_⟩
      rintro e V3 ⟨(⟨rfl, h3⟩ | ⟨rfl, h3⟩), hk⟩
      · clear hk hR hy
        gi_wp2
        go_end0
        exact ⟨⟨_, rfl⟩, .inl ⟨_, HP.out, h3⟩⟩
      · clear hk hR hy
        gi_wp2
        go_end0
        exact ⟨⟨_, rfl⟩, .inr ⟨_, by rw [HP.out]; exact List.prefix_refl _, h3⟩⟩
    · rw [if_pos hk] at hib
      have CI := Lib.hid (fun (V : World) => (cIndex1 r V).mono (R' := fun e V' => e = .returned (.int .i64 ((upto r 10 : Nat) : Int)) ∧ V' = V) (fun e V' h => by rw [h.1, hib]; exact ⟨rfl, h.2⟩))
      have hspl := lns_part hno hpart
      have s2 := cut_to r (upto r 10) (by omega)
      have s3 := cut_from r (upto r 10 + 1) (by omega)
      have hq : (r.drop (upto r 10 + 1)).length < r.length := by simp; omega
      have hpre : pre ++ [r.take (upto r 10)] ++ lnsOf (r.drop (upto r 10 + 1)) = lnsOf s := by rw [hsp, hspl]; simp
      have hkb : upto r 10 ≤ 100000 := by omega
      clear hspl hpart hno hib hk
      generalize r.drop (upto r 10 + 1) = q at *
      generalize r.take (upto r 10) = p at *
      generalize upto r 10 = k at *
      have HP := Lib.hid hpre
      obtain ⟨fn, tmps, asg, body, hy, hR⟩ := HY.out pre p _ hJ (by rw [← hpre]; exact List.prefix_append _ _)
      have HB := Lib.hid (And.intro hb1 (And.intro (boxLen_of hb1) (And.intro hq (And.intro (show q.length ≤ 100000 by omega) (And.intro he1 hz1)))))
      have hk0 : (0 : Int) ≤ (k : Int) := by omega
      have hk1 : ¬ (k : Int) < 0 := by omega
      have s3' : ∀ W : World, (Instr.slice 9 (.string (strOf r)) (some (.int .i64 ((k : Int) + 1))) none none).run Tryd.prog W = .ok (.string (strOf q)) W := s3
      clear hsp hJ hr hb1 hrel hd hpre hq s3 he1 hz1 hz
      generalize strOf r = R0 at *
      gi_wp2_with (refine ⟨trivial, rfl, ?_⟩; gi_at_call 46; refine (callsIn_wide.2 (CI.out _)).mono ?_; rintro e V ⟨rfl, rfl⟩)
      refine ⟨rfl, hR.mono ?_⟩
      rintro e V3 ⟨(⟨rfl, h3⟩ | ⟨rfl, h3⟩), hk⟩
      · have bK := hk B _ _ hb (.inl rfl) HB.out.1
        have eK := hk E _ _ hbE (.inl rfl) HB.out.2.2.2.2.1
        have zK := hk Z _ _ hbZ (.inr rfl) HB.out.2.2.2.2.2
        have HK := Lib.hid (And.intro (HJ.out _ V3 _ (some B) h3 (grownBy_setCell' V3 B (.string (strOf q))) (fun q e => by cases e; exact ⟨.inl rfl, soft_str bK⟩)) (And.intro (bK.set (.string (strOf q))) (And.intro (eK.other (Ne.symm hBE) (.string (strOf q))) (zK.other (Ne.symm hBZ) (.string (strOf q))))))
        have d1 := bK.cell
        have d2 := eK.cell
        have d3 := bK.frozen
        clear h3 hk hR hy c1 c2 c3 f1 bK eK zK
        gi_wp2
        go_roundw
        case rel => exact Lib.hid ⟨_, q, HK.out.1, HP.out.symm, HK.out.2.1, HB.out.2.2.2.1, HK.out.2.2.1, HK.out.2.2.2⟩
        case measure =>
          rw [boxLen_of HK.out.2.1, HB.out.2.1]
          exact HB.out.2.2.1
      · clear hk hR hy
        gi_wp2
        refine bodyPost_ret (results_none rfl _ _ _) rfl ?_
        exact ⟨⟨_, rfl⟩, .inr ⟨_, by rw [← HP.out]; exact List.prefix_append _ _, h3⟩⟩
end Go.Proofs.YtkhmpmjonkmbeaaDoor
