/- The law EvalReads. -/
import Derived.Test.YtblckajejohlbaaDoorM10
import Derived.Test.YtblckajejohlbaaDoorEus
set_option linter.unusedVariables false
set_option linter.unusedSimpArgs false
set_option linter.unusedVariables false
set_option linter.unusedSimpArgs false
namespace Go.Proofs.YtblckajejohlbaaDoor
open Go Go.RowKit L8 L22 L17
open L14 (inW)

/-- Another list is laid into a store of the call's own. -/
theorem OwS.lay {w : World} {B n c g : Nat} {vs : List Value} {s : St} (h : OwS w B (some ⟨g, 0, none⟩) n c vs s) {k : Nat} (hk : k < n) {P : Option Addr} {m d : Nat} {l : List Int} (hm : l.length = m) (r : WoR (w.setCell ⟨g, k, none⟩ (.slice P m d)) P d l) : StR (w.setCell ⟨g, k, none⟩ (.slice P m d)) (some ⟨g, 0, none⟩) c (s.set k l) := by
  subst hm
  obtain ⟨q1, q2⟩ := h.own.stored k (.slice P l.length d)
  have hl := h.len
  have hv := h.vlen
  have hs : k < s.length := by omega
  have hvk : k < vs.length := by omega
  have no : ∀ j, j < n → (vs.getD j nilV).ownBlock = none ∨ (vs.getD j nilV).ownBlock ≠ some g := h.no
  rcases q1.2 with ⟨hv', h0⟩ | ⟨g', cap, cur, hv', hB, hh, hnc, hmx, hcs, hx⟩
  · omega
  · injection hv' with h1 h2 h3
    subst h3
    refine ⟨by rw [List.length_set]; omega, hmx, fun j hj => ?_⟩
    rw [List.length_set] at hj
    by_cases hjk : j = k
    · subst hjk
      refine ⟨⟨g, 0, none⟩, rfl, P, l.length, d, ?_, World.ownsRow.cells q1 rfl j (.slice P l.length d) ?_, ?_⟩
      · rw [set_getD hs, if_pos rfl]
      · rw [List.getElem?_set_self hvk]
      · rw [set_getD hs, if_pos rfl]; exact r
    · obtain ⟨P', d', e', r'⟩ := h.row j (by omega)
      refine ⟨⟨g, 0, none⟩, rfl, P', ((s.set k l).getD j []).length, d', rfl, World.ownsRow.cells q1 rfl j (.slice P' ((s.set k l).getD j []).length d') ?_, ?_⟩
      · rw [List.getElem?_set_ne (by omega), set_getD hs, if_neg hjk, ← e', List.getD_eq_getElem?_getD, List.getElem?_eq_getElem (by omega)]
        rfl
      · rw [set_getD hs, if_neg hjk]
        have r2 := r'.kept q2 (no j (by omega))
        rw [e'] at r2
        exact wor_own r2 (stW_get h.wd j)
theorem put_m (s : St) (i x : Int) : putS s (-1) i x = s := by
  unfold putS hasS
  rw [decide_eq_false (by omega)]
  rfl
structure LwR (w X : World) (e : Kx) (A : Option Addr) (n c : Nat) (s : St) (S : Option Addr) (sc : Nat) (l : List Int) (L : Option Addr) (lc : Nat) : Prop where
  vs : VS w X e A n c s S sc
  t : T17 X
  l : WoR X L lc l
theorem LwR.step {w X Y : World} {e : Kx} {A : Option Addr} {n c : Nat} {s : St} {S : Option Addr} {sc : Nat} {l : List Int} {L : Option Addr} {lc : Nat} (h : LwR w X e A n c s S sc l L lc) (b : Below X.heap.size X Y) : LwR w Y e A n c s S sc l L lc := ⟨h.vs.step b, h.t.below b, h.l.keep b⟩
set_option maxRecDepth 100000 in
set_option maxHeartbeats 16000000 in
theorem walkEvalReads (s : St) (S : Option Addr) (sn sc : Nat) (hs : s.length = sn) (e : Kx) (A : Option Addr) (n c : Nat) (hn : e.l.length = n) (ok : OKk e) (v : Int) (hv : 0 ≤ v ∧ v < 256) (l : List Int) (L : Option Addr) (ln lc : Nat) (hl : l.length = ln) (w : World) (T : StR w S sc s) (hM : StM s) (R : KrR w A c e.l) (RL : WoR w L lc l) (hT : T17 w) : Calls Tryd.prog 6 #[.slice S sn sc, kxV e A n c, .int .u8 v, .slice L ln lc] w fun en w' => en = .returned (.bool true) ∧ Below w.heap.size w w' := by
  have H0 : Hid (LwR w (w.alloc (.cells (kxC e A n c) 45)) e A n c s S sc l L lc) := Lib.hid ⟨VS.new (n := n) R T, hT.below (bal (b0 w) _), RL.keep (bal (b0 w) _)⟩
  have CG := Lib.hid fun X (h : Hid (LwR w X e A n c s S sc l L lc)) => great_any s S sn sc X h.out.vs.st hs hM.b (by rw [← hs]; exact hM.n)
  have HP := Lib.hid fun X (h : Hid (LwR w X e A n c s S sc l L lc)) => h.out.vs.box
  have CV := Lib.hid fun X (h : Hid (LwR w X e A n c s S sc l L lc)) => RValid_any e A n c X h.out.vs.tr hn ok
  have CA := Lib.hid fun X (h : Hid (LwR w X e A n c s S sc l L lc)) => awake_any X h.out.t
  have hmx : ln ≤ maxLen := by have := RL.le; have := RL.mx; omega
  unfold maxLen at hmx
  obtain ⟨p0, p1, p2, p3, p4, p5⟩ := HP.out _ H0
  dsimp only [kxV, kxC] at *
  have h300 : (600 < grS s) ∨ (300 < ln) ∨ mayX e = false ∨ sn = 0 ∨ (grS s ≤ 600 ∧ ln ≤ 300 ∧ mayX e = true ∧ 0 < sn) := by
    cases mayX e <;> simp <;> omega
  clear RL T R hT
  by_cases g0 : 600 < grS s
  · rw [decide_eq_true g0] at CG
    clear h300
    go_enter Tryd.func6, Tryd.ntmps6
    go_wp2_with (first
      | (go_at_call 11; (with_reducible refine (CG.out _ H0).mono ?_); rintro en w1 ⟨rfl, rfl⟩)
      | (go_at_call 12; (with_reducible refine (CA.out _ H0).mono ?_); rintro en w1 ⟨rfl, b⟩; have H1 := Lib.hid (H0.out.step b); clear b))
    go_ret
    exact ⟨rfl, H1.out.vs.bel⟩
  rw [decide_eq_false g0] at CG
  by_cases g1 : 300 < ln
  · have g1' : (300 : Int) < (ln : Int) := by omega
    clear h300
    go_enter Tryd.func6, Tryd.ntmps6
    go_wp2_with (first
      | (go_at_call 11; (with_reducible refine (CG.out _ H0).mono ?_); rintro en w1 ⟨rfl, rfl⟩)
      | (go_at_call 12; (with_reducible refine (CA.out _ H0).mono ?_); rintro en w1 ⟨rfl, b⟩; have H1 := Lib.hid (H0.out.step b); clear b))
    go_ret
    exact ⟨rfl, H1.out.vs.bel⟩
  have g1' : ¬(300 : Int) < (ln : Int) := by omega
  cases hmay : mayX e with
  | false =>
    rw [hmay] at CV
    clear h300 hmay
    go_enter Tryd.func6, Tryd.ntmps6
    go_wp2_with (first
      | (go_at_call 11; (with_reducible refine (CG.out _ H0).mono ?_); rintro en w1 ⟨rfl, rfl⟩)
      | (go_at_call 25; (with_reducible refine (CV.out _ H0).mono ?_); rintro en w1 ⟨rfl, b⟩; have H1 := Lib.hid (H0.out.step b); clear b; clear p0 p1 p2 p3 p4 p5; obtain ⟨p0, p1, p2, p3, p4, p5⟩ := HP.out _ H1)
      | (go_at_call 12; (with_reducible refine (CA.out _ H1).mono ?_); rintro en w1 ⟨rfl, b⟩; have H2 := Lib.hid (H1.out.step b); clear b))
    go_ret
    exact ⟨rfl, H2.out.vs.bel⟩
  | true =>
  rw [hmay] at CV
  by_cases g3 : sn = 0
  · subst g3
    clear h300 hmay
    go_enter Tryd.func6, Tryd.ntmps6
    go_wp2_with (first
      | (go_at_call 11; (with_reducible refine (CG.out _ H0).mono ?_); rintro en w1 ⟨rfl, rfl⟩)
      | (go_at_call 25; (with_reducible refine (CV.out _ H0).mono ?_); rintro en w1 ⟨rfl, b⟩; have H1 := Lib.hid (H0.out.step b); clear b; clear p0 p1 p2 p3 p4 p5; obtain ⟨p0, p1, p2, p3, p4, p5⟩ := HP.out _ H1)
      | (go_at_call 12; (with_reducible refine (CA.out _ H1).mono ?_); rintro en w1 ⟨rfl, b⟩; have H2 := Lib.hid (H1.out.step b); clear b))
    go_ret
    exact ⟨rfl, H2.out.vs.bel⟩
  have g3' : ((sn : Int) == 0) = false := by simp; omega
  have g3q : ¬ (sn : Int) = 0 := by omega
  have g3n : (0 : Int) < (sn : Int) := by omega
  obtain ⟨k, hq⟩ : ∃ k : Nat, v % (sn : Int) = (k : Int) := ⟨(v % (sn : Int)).toNat, by have := Int.emod_nonneg v (show (sn : Int) ≠ 0 by omega); omega⟩
  have hks : (k : Int) < (sn : Int) := by have := Int.emod_lt_of_pos v g3n; omega
  have hk0 : (0 : Int) ≤ (k : Int) := by omega
  have CU : Hid (∀ X, Hid (LwR w X e A n c s S sc l L lc) → Calls Tryd.prog 26 #[kxV e A n c, .int .i64 (k : Int), .int .i64 40] X fun en w' => en = .returned (.bool (usX (k : Int) e)) ∧ Below X.heap.size X w') := Lib.hid fun X h => Uses_any e A n c (k : Int) 40 X h.out.vs.tr hn ok (by have := (may_iff.1 hmay).2.1; omega) (by omega)
  have gr6 : grS s ≤ 600 := by omega
  have C1 := Lib.hid fun X (h : Hid (LwR w X e A n c s S sc l L lc)) => PValue_any s S sn sc hs e A n c X h.out.vs.tr ok hn h.out.vs.st h.out.t
  have VX : Hid (usX (k : Int) e = false → valK (s.set k l) e = valK s e) := Lib.hid fun h => val_set h
  have CP : Hid (∀ X, Hid (LwR w X e A n c s S sc l L lc) → Calls Tryd.prog 23 #[.slice S sn sc, .int .i64 (-1), .int .i64 0, .int .i32 0] X fun en w' => ∃ g c' vs, en = .returned (.slice (some ⟨g, 0, none⟩) sn c') ∧ OwS w' X.heap.size (some ⟨g, 0, none⟩) sn c' vs s ∧ Below X.heap.size X w') := Lib.hid fun X h => (RPut_any s S sn sc (-1) 0 0 ⟨by decide, by decide⟩ X h.out.vs.st hs hM.b (by unfold grS at gr6; omega)).mono fun en w' ⟨A', c', vs, h1, h2, h3⟩ => by
    rw [put_m, hs] at h1 h2
    obtain ⟨g, rfl, _, _⟩ := h2.out (by omega)
    exact ⟨g, c', vs, h1, h2, h3⟩
  have C2 := Lib.hid fun X g c' (h : Hid (LwR w X e A n c s S sc l L lc)) (t : StR X (some ⟨g, 0, none⟩) c' (s.set k l)) => PValue_any (s.set k l) (some ⟨g, 0, none⟩) sn c' (by rw [List.length_set]; exact hs) e A n c X h.out.vs.tr ok hn t h.out.t
  have hkn : k < sn := by omega
  clear h300 hmay
  cases hu : usX (k : Int) e with
  | true =>
    rw [hu] at CU
    clear C1 C2 VX CP hu
    dsimp only [kxV, kxC] at *
    go_enter Tryd.func6, Tryd.ntmps6
    go_wp2_with (first
      | (go_at_call 11; (with_reducible refine (CG.out _ H0).mono ?_); rintro en w1 ⟨rfl, rfl⟩)
      | (go_at_call 25; (with_reducible refine (CV.out _ H0).mono ?_); rintro en w1 ⟨rfl, b⟩; have H1 := Lib.hid (H0.out.step b); clear b; clear p0 p1 p2 p3 p4 p5; obtain ⟨p0, p1, p2, p3, p4, p5⟩ := HP.out _ H1)
      | (go_at_call 26; simp only [hq]; (with_reducible refine (CU.out _ H1).mono ?_); rintro en w2 ⟨rfl, b⟩; have H2 := Lib.hid (H1.out.step b); clear b; clear p0 p1 p2 p3 p4 p5; obtain ⟨p0, p1, p2, p3, p4, p5⟩ := HP.out _ H2)
      | (go_at_call 12; (with_reducible refine (CA.out _ H2).mono ?_); rintro en w1 ⟨rfl, b⟩; have H3 := Lib.hid (H2.out.step b); clear b))
    go_ret
    exact ⟨rfl, H3.out.vs.bel⟩
  | false =>
  rw [hu] at CU
  rw [VX.out hu] at C2
  clear VX hu
  unfold apR at C1 C2
  generalize (valK s e).getD 0 = r at *
  generalize (valK s e).isSome = z at *
  have qr : (r == r) = true := by simp
  have qz : (z == z) = true := by simp
  dsimp only [kxV, kxC] at *
  go_enter Tryd.func6, Tryd.ntmps6
  go_upto_region 8 with (first
      | (go_at_call 11; (with_reducible refine (CG.out _ H0).mono ?_); rintro en w1 ⟨rfl, rfl⟩)
      | (go_at_call 25; (with_reducible refine (CV.out _ H0).mono ?_); rintro en w1 ⟨rfl, b⟩; have H1 := Lib.hid (H0.out.step b); clear b; clear p0 p1 p2 p3 p4 p5; obtain ⟨p0, p1, p2, p3, p4, p5⟩ := HP.out _ H1)
      | (go_at_call 26; simp only [hq]; (with_reducible refine (CU.out _ H1).mono ?_); rintro en w2 ⟨rfl, b⟩; have H2 := Lib.hid (H1.out.step b); clear b; clear p0 p1 p2 p3 p4 p5; obtain ⟨p0, p1, p2, p3, p4, p5⟩ := HP.out _ H2)
      | (go_at_call 23; (with_reducible refine (CP.out _ H2).mono ?_); rintro en w3 ⟨g, c', vs, rfl, o, b⟩; have H3 := Lib.hid (H2.out.step b); have hg := (o.ge g rfl).1; obtain ⟨⟨y, hy⟩, hfz⟩ := (show (∃ v, w3.cell? ⟨g, k, none⟩ = some v) ∧ w3.frozen? ⟨g, k, none⟩ = false from ⟨⟨_, (o.own.cellAt k (by omega)).trans (List.getElem?_eq_getElem (by rw [o.vlen]; exact hkn))⟩, o.own.frozenAt k⟩); have O := Lib.hid o; have B3 := Lib.hid b; clear o b; clear p0 p1 p2 p3 p4 p5; obtain ⟨p0, p1, p2, p3, p4, p5⟩ := HP.out _ H3))
  have H4 : Hid (LwR w (w3.setCell ⟨g, k, none⟩ (.slice L ln lc)) e A n c s S sc l L lc) := Lib.hid (H2.out.step (bset B3.out hg _))
  have T4 : Hid (StR (w3.setCell ⟨g, k, none⟩ (.slice L ln lc)) (some ⟨g, 0, none⟩) c' (s.set k l)) := Lib.hid (O.out.lay hkn hl H4.out.l)
  clear p0 p1 p2 p3 p4 p5 hy hfz O B3 H3 H2 H1 H0 CU CP CG CV hg
  generalize w3.setCell ⟨g, k, none⟩ (.slice L ln lc) = w4 at *
  obtain ⟨p0, p1, p2, p3, p4, p5⟩ := HP.out _ H4
  cases z <;>
  (go_wp2_with (first
      | (go_at_call 19; (with_reducible refine (C1.out _ H4).mono ?_); rintro en w5 ⟨rfl, b⟩; have H5 := Lib.hid (H4.out.step b); have T5 := Lib.hid (T4.out.keep b); clear b; clear p0 p1 p2 p3 p4 p5; obtain ⟨p0, p1, p2, p3, p4, p5⟩ := HP.out _ H5)
      | (go_at_call 19; (with_reducible refine (C2.out _ _ _ H5 T5.out).mono ?_); rintro en w6 ⟨rfl, b⟩; have H6 := Lib.hid (H5.out.step b); clear b; clear p0 p1 p2 p3 p4 p5; obtain ⟨p0, p1, p2, p3, p4, p5⟩ := HP.out _ H6)
      | (go_at_call 12; (with_reducible refine (CA.out _ H6).mono ?_); rintro en w7 ⟨rfl, b⟩; have H7 := Lib.hid (H6.out.step b); clear b))
   go_ret
   exact ⟨rfl, H7.out.vs.bel⟩)
end Go.Proofs.YtblckajejohlbaaDoor
