/- The reference: the values of all specifications. -/
import Derived.Test.YtimbiobonigdmaaGreatDoorZvl
import Derived.Test.YtimbiobonigdmaaGreatDoorM06
import Derived.Deep.CutRange
set_option linter.unusedVariables false
set_option linter.unusedSimpArgs false
namespace Go.Proofs.YtimbiobonigdmaaGreatDoor
open Go Go.RowKit L8 L10 L14

def knC (v : Option Int) : List Value := [.int .i32 (v.getD 0), .bool v.isSome]
def knCs (l : List (Option Int)) : List Value := l.flatMap knC
theorem knCs_app (a b : List (Option Int)) : knCs (a ++ b) = knCs a ++ knCs b := by simp [knCs]
theorem knCs_len (l : List (Option Int)) : (knCs l).length = l.length * 2 := by
  induction l with
  | nil => rfl
  | cons y r ih => show (knC y ++ knCs r).length = _; rw [List.length_append, ih]; simp [knC]; omega
theorem knCs_one (l : List (Option Int)) : ∀ v ∈ knCs l, v.oneCell' = true := by
  intro v hv
  simp only [knCs, List.mem_flatMap, knC] at hv
  obtain ⟨y, _, h⟩ := hv
  simp at h
  rcases h with rfl | rfl <;> rfl
theorem knCs_at : ∀ {l : List (Option Int)} {j i : Nat}, j < l.length → i < 2 → (knCs l)[j * 2 + i]? = (knC (l.getD j none))[i]?
  | y :: r, 0, i, _, hi => by
    show (knC y ++ knCs r)[0 * 2 + i]? = _
    rw [Nat.zero_mul, Nat.zero_add, List.getElem?_append_left (by simpa [knC] using hi)]
    rfl
  | y :: r, j + 1, i, h, hi => by
    have ih := knCs_at (l := r) (j := j) (by simpa using h) hi
    show (knC y ++ knCs r)[(j + 1) * 2 + i]? = _
    rw [List.getElem?_append_right (by simp [knC]; omega), List.getD_cons_succ, ← ih]
    congr 1
    simp [knC]
    omega
def OwnK (w : World) (B : Nat) (A : Option Addr) (n c : Nat) (l : List (Option Int)) : Prop := w.ownsRow B 88 2 (.slice A n c) n (knCs l)
theorem OwnK.len {w : World} {B n c : Nat} {A : Option Addr} {l : List (Option Int)} (h : OwnK w B A n c l) : l.length = n := by
  have := h.1
  rw [knCs_len] at this
  omega
theorem OwnK.r {w : World} {B n c : Nat} {A : Option Addr} {l : List (Option Int)} (h : OwnK w B A n c l) : KnR w A c l := by
  have hl := h.len
  rcases h.2 with ⟨hv, h0⟩ | ⟨g, cap, cur, hv, hB, hh, hnc, hm, hcs, hx⟩
  · injection hv with h1 h2 h3
    subst h1 h3
    obtain rfl : l = [] := List.eq_nil_of_length_eq_zero (by omega)
    exact ⟨Nat.le_refl _, by simp [maxLen], fun j h => absurd h (by simp)⟩
  · injection hv with h1 h2 h3
    subst h1 h3
    refine ⟨by omega, hm, fun j hj => ?_⟩
    have hc : ∀ i, i < 2 → ∀ v, (knC (l.getD j none))[i]? = some v → w.cell? ((⟨g, 0, none⟩ : Addr).add (j * 2 + i)) = some v := fun i hi v hv => World.ownsRow.cells h rfl (j * 2 + i) v ((knCs_at (by omega) hi).trans hv)
    have e : ∀ i, w.cell? ⟨((⟨g, 0, none⟩ : Addr).add (j * 2)).block, ((⟨g, 0, none⟩ : Addr).add (j * 2)).off + i, none⟩ = w.cell? ((⟨g, 0, none⟩ : Addr).add (j * 2 + i)) := fun i => by rw [add_plain, add_plain, ← Nat.add_assoc]
    exact ⟨_, rfl, hc 0 (by decide) _ rfl, (e 1).trans (hc 1 (by decide) _ rfl)⟩
theorem kn_info : (Tryz.prog.info? 88).map (fun i => (i.zero, i.size, i.bytes)) = some (some (.agg #[.int .i32 0, .bool false]), 2, 8) := by kernel_rfl
theorem ownk_succ {w : World} {B n : Nat} {v : Value} {xs : List Value} (h : w.ownsRow B 88 2 v (n + 1) xs) : ∃ g cap, v = .slice (some ⟨g, 0, none⟩) (n + 1) cap := by
  rcases h.2 with ⟨_, h0⟩ | ⟨g, cap, _, hv, _⟩
  · omega
  · exact ⟨g, cap, hv⟩
set_option maxRecDepth 10000 in
theorem app_kn {w : World} {ops : Array Oper} {rest : List Oper} {o : Oper} {a : Act} {Q : Exit → Act → World → Prop} (hgd : o.guard = none) (s x : Operand)
    (ho : o.op = .call { callee := .builtin .append, args := #[s, x], argTypes := #[63, 63] }) (base n c : Nat) (A : Option Addr) (l : List (Option Int)) (y : Option Int) (q : Nat) (hs : a.eval s = .slice A n c) (hx : a.eval x = .slice (some ⟨q, 0, none⟩) 1 1)
    (hown : OwnK w base A n c l) (hc : BoxS w q 88 #[.int .i32 (y.getD 0), .bool y.isSome]) (h63 : n ≤ 1000000) (hbase : base ≤ w.heap.size)
    (h : ∀ A2 c2 w', OwnK w' base A2 (n + 1) c2 (l ++ [y]) → w.grownBy w' (Value.slice A n c).ownBlock → wpList Tryz.prog ops Q rest (a.put o.dst (.slice A2 (n + 1) c2)) w') : wpList Tryz.prog ops Q (o :: rest) a w := by
  obtain ⟨i0, hi0, hz0, hz1, hz2⟩ := info_parts kn_info
  refine wpList_append_own w hgd s x 63 ho base 88 i0 (.agg #[.int .i32 0, .bool false]) 2 8 Tryz.underlying63 hi0 hz0 hz1 hz2 rfl (by decide) (.slice A n c) n (knCs l) hs hown ⟨q, 0, none⟩ 1 1 (knCs [y]) hx (knCs_len [y]) (fun j u hj => by
    rw [add_plain, Nat.zero_add, hc.cell j, ← hj]
    show (knC y).toArray[j]? = _
    rw [List.getElem?_toArray]
    rfl) (knCs_one _) (by unfold maxLen; omega) (by omega) hbase ?_
  intro v' w9 hown' hgrow _
  obtain ⟨g', cap', rfl⟩ := ownk_succ hown'
  rw [← knCs_app] at hown'
  exact h _ _ w9 hown' hgrow
theorem valsL_succ (l : List Sp) (n : Nat) : valsL l (n + 1) = valsL l n ++ [entV l n] := by unfold valsL; rw [List.range_succ, List.map_append]; rfl
/-- In the loop over the specifications. -/
structure VsS (w X : World) (A : Option Addr) (n c : Nat) (l : List Sp) : Prop where
  b : Below w.heap.size w X
  own : OwnK X w.heap.size A n c (valsL l n)
theorem VsS.step {w X Y : World} {A : Option Addr} {n c : Nat} {l : List Sp} (h : VsS w X A n c l) (b : Below X.heap.size X Y) : VsS w Y A n c l := ⟨blw h.b b, own_keepB h.own b⟩
theorem box2_set {W : World} {q : Nat} {t : TypeId} {a b : Value} (c d : Value) (h : BoxS W q t #[a, b]) : BoxS ((W.setCell ⟨q, 0, none⟩ c).setCell ⟨q, 1, none⟩ d) q t #[c, d] := by
  have := boxset (boxset h 0 c) 1 d
  simpa using this
theorem box2 {W : World} {q : Nat} {t : TypeId} {a b : Value} (h : BoxS W q t #[a, b]) : W.cell? ⟨q, 0, none⟩ = some a ∧ W.cell? ⟨q, 1, none⟩ = some b := ⟨(h.cell 0).trans rfl, (h.cell 1).trans rfl⟩
theorem VsS.app {w X Y : World} {A A2 : Option Addr} {n c c2 : Nat} {l : List Sp} (h : VsS w X A n c l) (o : OwnK Y w.heap.size A2 (n + 1) c2 (valsL l n ++ [entV l n])) (g : X.grownBy Y (Value.slice A n c).ownBlock) : VsS w Y A2 (n + 1) c2 l :=
  ⟨bgrow h.b h.own (Nat.le_refl _) g, by rw [valsL_succ]; exact o⟩
set_option maxRecDepth 100000 in
set_option maxHeartbeats 16000000 in
theorem Rvalues_any (E : Option Addr) (k d : Nat) (l : List Sp) (hk : l.length = k) (hk6 : k ≤ 1000000) (w : World) (S : SpR w E d l) : Calls Tryz.prog 25 #[.slice E k d] w fun e w' => ∃ K kc, e = .returned (.slice K k kc) ∧ KnR w' K kc (valsL l k) ∧ Below w.heap.size w w' := by
  have HS := Lib.hid (fun (X : World) (b : Below w.heap.size w X) => S.keep b)
  have HK := Lib.hid hk
  clear S hk
  go_enter Tryz.func25, Tryz.ntmps25
  go_wp2
  go_loopw [3, 4] (fun a i wr => ∃ (j c : Nat) (A : Option Addr), j ≤ k ∧ i = .int .i64 (j : Int) ∧ a = .slice A j c ∧ Hid (VsS w wr A j c l)) (fun _ i _ => k - (intOf i).toNat)
  case atStart => exact ⟨0, 0, none, Nat.zero_le _, rfl, rfl, Lib.hid ⟨b0 w, World.ownsRow_nil w _ _ 2⟩⟩
  case round =>
    obtain ⟨j, c, A, hj, rfl, rfl, H⟩ := hrel
    have hj0 : (0 : Int) ≤ (j : Int) := by omega
    by_cases hlt : (j : Int) < (k : Int)
    · have S := HS.out _ H.out.b
      obtain ⟨ad, he, ok, AN, cN, BN, dN, hs⟩ := S.rd j (by have := HK.out; omega)
      have HE := Lib.hid (entV_is l j)
      have HI := Lib.hid (fun (ha : allE (l.getD j sp0).e = true) X (bX : Below wr.heap.size wr X) => Rval14_any (K := A) (kn := j) (kc := c) (nn := j) (d := d) HK.out (by omega) (Nat.le_refl _) (l.getD j sp0).e ha BN _ dN X (hs.tr.keep bX) rfl ok.e (S.keep bX) ((H.out.step bX).own.r))
      have HM := Lib.hid (fun X (bX : Below wr.heap.size wr X) => RMayX_any (l.getD j sp0).e BN _ dN X (hs.tr.keep bX) rfl ok.e)
      have HX := Lib.hid (fun X (bX : Below wr.heap.size wr X) => (hs.km (.below bX)))
      have q2 : (((l.getD j sp0).k : Int) == 2) = decide ((l.getD j sp0).k = 2) := nat_eq10 _ 2
      have hvd : vald (l.getD j sp0) = (decide ((l.getD j sp0).k = 2) && mayE (l.getD j sp0).e) := rfl
      rw [hvd] at HE
      have HA := Lib.hid (fun (Y : World) A2 c2 (X : World) (h : VsS w X A j c l) (o : OwnK Y w.heap.size A2 (j + 1) c2 (valsL l j ++ [entV l j])) g => h.app (Y := Y) (A2 := A2) (c2 := c2) o g)
      have HX0 := HX.out (wr.alloc (.cells #[.int .i32 0, .bool false] 88)) (bal (b0 wr) _)
      clear S hs hvd ok
      generalize l.getD j sp0 = x at *
      subst he
      have hb1 := bal (b0 wr) (.cells #[.int .i32 0, .bool false] 88)
      have HB1 := Lib.hid hb1
      have HBX := Lib.hid (fun X (b : Below (wr.alloc (.cells #[.int .i32 0, .bool false] 88)).heap.size (wr.alloc (.cells #[.int .i32 0, .bool false] 88)) X) => (boxS_new wr 88 #[.int .i32 0, .bool false]).below b)
      have c0 := HX0.c0
      clear HX0 hb1
      by_cases k2 : x.k = 2
      · rw [decide_eq_true k2] at q2 HE
        rw [Bool.true_and] at HE
        have HEx := Lib.hid fun X bX => (HX.out X bX).ex
        clear HX
        cases hm : mayE x.e with
        | false =>
          rw [hm] at HE HM
          have HE2 := Lib.hid (HE.out.trans (if_neg (by simp)))
          rw [HE2.out] at HA
          clear HE HI hm k2 HE2
          obtain ⟨y0, y1, y2, y3, y4, y5⟩ := HEx.out _ HB1.out
          obtain ⟨p0, p1⟩ := box2 (HBX.out _ (b0 _))
          have C := Lib.hid (HM.out _ HB1.out)
          clear HM
          dsimp only [exV] at C
          generalize strOf x.e.s = SX at *
          go_wp2_with (first
            | (go_at_call 23; (with_reducible refine (C.out).mono ?_); rintro e1 w2 ⟨rfl, b1⟩; have B2 := Lib.hid (blw HB1.out b1); have Q2 := Lib.hid (HBX.out _ b1); clear p0 p1; obtain ⟨p0, p1⟩ := box2 Q2.out; clear b1)
            | (at_builtin; refine app_kn rfl (.tmp 41) (.tmp 43) rfl w.heap.size j c A (valsL l j) none w2.heap.size rfl rfl (H.out.step (bal B2.out _)).own (boxS_new w2 88 #[.int .i32 0, .bool false]) (by omega) (H.out.step (bal B2.out _)).b.size ?_; intro A2 c2 Y o g; have H2 := Lib.hid (HA.out Y A2 c2 _ (H.out.step (bal B2.out _)) o g); clear o g))
          go_roundw
          case rel => exact ⟨j + 1, c2, A2, by omega, by go_num, rfl, H2⟩
          case measure => simp [intOf]; omega
        | true =>
          rw [hm] at HE HM
          have HE2 := Lib.hid (HE.out.trans (if_pos rfl))
          rw [HE2.out] at HA
          have HI := Lib.hid (HI.out (may_parts.1 hm).1)
          clear HE hm k2 HE2
          obtain ⟨y0, y1, y2, y3, y4, y5⟩ := HEx.out _ HB1.out
          obtain ⟨p0, p1⟩ := box2 (HBX.out _ (b0 _))
          have C := Lib.hid (HM.out _ HB1.out)
          clear HM
          unfold VlR apR at HI
          generalize vOf (prefM l j) x.e = r at *
          dsimp only [exV] at C HI
          go_upto_region 7 with (go_at_call 23; (with_reducible refine (C.out).mono ?_); rintro e1 w2 ⟨rfl, b1⟩; have B2 := Lib.hid (blw HB1.out b1); have Q2 := Lib.hid (HBX.out _ b1); have D := Lib.hid (HI.out _ B2.out); clear p0 p1 y0 y1 y2 y3 y4 y5; obtain ⟨y0, y1, y2, y3, y4, y5⟩ := HEx.out _ B2.out; clear b1 c0)
          go_upto_region 8 with (go_at_call 24; (with_reducible refine (D.out).mono ?_); rintro e1 w3 ⟨rfl, b1⟩; have B3 := Lib.hid (blw B2.out b1); have Q3 := Lib.hid (Q2.out.below b1); clear y0 y1 y2 y3 y4 y5 b1; obtain ⟨p0, p1⟩ := box2 Q3.out; have f0 := Q3.out.frozen 0; have f1 := Q3.out.frozen 1)
          have B4 := Lib.hid (bset (bset B3.out (Nat.le_refl wr.heap.size) (j := 0) (.int .i32 (r.getD 0))) (Nat.le_refl wr.heap.size) (j := 1) (.bool r.isSome))
          have Q4 := Lib.hid (box2_set (.int .i32 (r.getD 0)) (.bool r.isSome) Q3.out)
          clear p0 p1 f0 f1 Q3 B3 Q2 B2 D
          generalize (w3.setCell ⟨wr.heap.size, 0, none⟩ (.int .i32 (r.getD 0))).setCell ⟨wr.heap.size, 1, none⟩ (.bool r.isSome) = X4 at *
          obtain ⟨p0, p1⟩ := box2 Q4.out
          go_wp2_with (at_builtin; refine app_kn rfl (.tmp 41) (.tmp 43) rfl w.heap.size j c A (valsL l j) r X4.heap.size rfl rfl (H.out.step (bal B4.out _)).own (boxS_new X4 88 #[.int .i32 (r.getD 0), .bool r.isSome]) (by omega) (H.out.step (bal B4.out _)).b.size ?_; intro A2 c2 Y o g; have H2 := Lib.hid (HA.out Y A2 c2 _ (H.out.step (bal B4.out _)) o g); clear o g)
          go_roundw
          case rel => exact ⟨j + 1, c2, A2, by omega, by go_num, rfl, H2⟩
          case measure => simp [intOf]; omega
      · rw [decide_eq_false k2] at q2 HE
        have HE2 := Lib.hid (HE.out.trans (if_neg (by simp)))
        rw [HE2.out] at HA
        clear HE HI HM HX k2 HE2
        obtain ⟨p0, p1⟩ := box2 (HBX.out _ (b0 _))
        go_wp2_with (at_builtin; refine app_kn rfl (.tmp 41) (.tmp 43) rfl w.heap.size j c A (valsL l j) none (wr.alloc (.cells #[.int .i32 0, .bool false] 88)).heap.size rfl (by simp only [World.size_alloc]; rfl) (H.out.step (bal HB1.out _)).own (boxS_new (wr.alloc (.cells #[.int .i32 0, .bool false] 88)) 88 #[.int .i32 0, .bool false]) (by omega) (H.out.step (bal HB1.out _)).b.size ?_; intro A2 c2 Y o g; have H2 := Lib.hid (HA.out Y A2 c2 _ (H.out.step (bal HB1.out _)) o g); clear o g)
        go_roundw
        case rel => exact ⟨j + 1, c2, A2, by omega, by go_num, rfl, H2⟩
        case measure => simp [intOf]; omega
    · obtain rfl : j = k := by omega
      go_wp2
      go_ret
      exact ⟨_, _, rfl, H.out.own.r, H.out.b⟩
end Go.Proofs.YtimbiobonigdmaaGreatDoor
