/- The reference: equal lists of kinds, protocols that exist, variants. -/
import Derived.Test.YtbkbhlbfkfnljaaDoorRta
set_option linter.unusedVariables false
set_option linter.unusedSimpArgs false
namespace Go.Proofs.YtbkbhlbfkfnljaaDoor
open Go Go.RowKit L8 L9

theorem ks_ext {a b : List Nat} (hl : a.length = b.length) (h : ∀ j, j < a.length → a.getD j 0 = b.getD j 0) : a = b := by
  apply List.ext_getElem? 
  intro i
  by_cases hi : i < a.length
  · have := h i hi
    have e1 : a[i]? = some (a.getD i 0) := by simp [hi]
    have e2 : b[i]? = some (b.getD i 0) := by simp [show i < b.length by omega]
    rw [e1, e2, this]
  · rw [List.getElem?_eq_none (by omega), List.getElem?_eq_none (by omega)]
theorem int_nat_neq (a b : Nat) : ((a : Int) != (b : Int)) = !decide (a = b) := by by_cases h : a = b <;> simp [h]; omega
set_option maxRecDepth 100000 in
set_option maxHeartbeats 8000000 in
theorem RSameKinds_any {A B : Option Addr} {c d m n : Nat} {xs ys : List Nat} {w : World} (R : KR w A c xs) (S : KR w B d ys) (hm : xs.length = m) (hn : ys.length = n) : Calls Tryd.prog 29 #[.slice A m c, .slice B n d] w fun e w' => e = .returned (.bool (decide (xs = ys))) ∧ Below w.heap.size w w' := by
  have HR := Lib.hid R
  have HS := Lib.hid S
  have hmx : m ≤ maxLen := by have := R.le; have := R.mx; omega
  unfold maxLen at hmx
  by_cases hl : m = n
  · subst hl
    have HM := Lib.hid hm
    have HN := Lib.hid hn
    clear R S hm hn
    go_enter Tryd.func29, Tryd.ntmps29
    go_wp2
    go_loopw [5] (fun i wr => ∃ k : Nat, k ≤ m ∧ i = .int .i64 k ∧ Hid (Below w.heap.size w wr ∧ ∀ j, j < k → xs.getD j 0 = ys.getD j 0)) (fun i _ => m - (intOf i).toNat)
    case atStart => exact ⟨0, Nat.zero_le _, rfl, Lib.hid ⟨b0 w, fun j hj => absurd hj (by omega)⟩⟩
    case round =>
      obtain ⟨k, hk, rfl, H⟩ := hrel
      by_cases hlt : (k : Int) < (m : Int)
      · obtain ⟨ad, rfl, c0⟩ := (HR.out.keep H.out.1).rd k (by have := HM.out; omega)
        obtain ⟨ad2, rfl, e0⟩ := (HS.out.keep H.out.1).rd k (by have := HN.out; omega)
        have hk0 : (0 : Int) ≤ (k : Int) := by omega
        have qd := int_nat_neq (xs.getD k 0) (ys.getD k 0)
        by_cases hv : xs.getD k 0 = ys.getD k 0
        · rw [decide_eq_true hv] at qd
          have HY := Lib.hid (show ∀ j, j < k + 1 → xs.getD j 0 = ys.getD j 0 from fun j hj => if h : j < k then H.out.2 j h else by rw [show j = k by omega]; exact hv)
          clear hv
          generalize xs.getD k 0 = a at *
          generalize ys.getD k 0 = b at *
          go_wp2
          go_quiet (fail)
          have HB := Lib.hid (And.intro (bdrew H.out.1 nq) HY.out)
          clear HY H c0 e0
          generalize wr.drewN nq = W at *
          go_wp2
          go_roundw
          case rel => exact ⟨k + 1, by omega, by go_num, HB⟩
          case measure => simp [intOf]; omega
        · rw [decide_eq_false hv] at qd
          have HY := Lib.hid (show decide (xs = ys) = false from decide_eq_false (fun e => hv (by rw [e])))
          clear hv
          generalize xs.getD k 0 = a at *
          generalize ys.getD k 0 = b at *
          go_wp2
          go_quiet (fail)
          have HB := Lib.hid (bdrew H.out.1 nq)
          clear H c0 e0
          generalize wr.drewN nq = W at *
          go_wp2
          go_ret
          rw [HY.out]
          exact ⟨rfl, HB.out⟩
      · obtain rfl : k = m := by omega
        have HY := Lib.hid (show decide (xs = ys) = true from decide_eq_true (ks_ext (HM.out.trans HN.out.symm) (by rw [HM.out]; exact H.out.2)))
        go_wp2
        go_ret
        rw [HY.out]
        exact ⟨rfl, H.out.1⟩
  · have HY := Lib.hid (show decide (xs = ys) = false from decide_eq_false (fun e => hl (by rw [← hm, ← hn, e])))
    have q : ((m : Int) != (n : Int)) = true := by simp; omega
    clear hm hn hl R S
    go_enter Tryd.func29, Tryd.ntmps29
    go_wp2
    go_ret
    rw [HY.out]
    exact ⟨rfl, b0 w⟩
/-! ### Protocols -/
theorem mayP_bad {vs : List Vr} {i : Nat} (hi : i < vs.length) (h : ¬ okV vs i) : mayP true vs = false := by
  unfold mayP
  rw [if_pos rfl, decide_eq_false (show ¬ ∀ i, i < vs.length → okV vs i from fun g => h (g i hi))]
  simp
theorem mayP_good {vs : List Vr} (h1 : 1 ≤ vs.length) (h2 : vs.length ≤ 16) (h : ∀ i, i < vs.length → okV vs i) : mayP true vs = true := by
  unfold mayP
  rw [if_pos rfl, decide_eq_true h1, decide_eq_true h2, decide_eq_true h]
  rfl
theorem mayP_len {vs : List Vr} (h : vs.length < 1 ∨ 16 < vs.length) : mayP true vs = false := by
  unfold mayP
  rw [if_pos rfl]
  rcases h with h | h
  · rw [decide_eq_false (show ¬ 1 ≤ vs.length by omega)]; rfl
  · rw [decide_eq_false (show ¬ vs.length ≤ 16 by omega)]; simp
theorem mayP_no {vs : List Vr} : mayP false vs = (decide (vs.length = 1) && (decide ((vs.getD 0 v0).tag = []) && itemsB (vs.getD 0 v0).it 1)) := by
  unfold mayP; rw [if_neg (by decide)]
theorem VrAt.parts {w : World} {p : Addr} {v : Vr} (h : VrAt w p v) : ∃ B d n, v.it.length = n ∧ w.cell? p = some (.string (strOf v.tag)) ∧ w.cell? ⟨p.block, p.off + 1, none⟩ = some (.slice B n d) ∧ KR w B d v.it := by
  obtain ⟨h1, B, d, h2, h3⟩ := h
  exact ⟨B, d, _, rfl, h1, h2, h3⟩
def prV (c : Bool) (A : Option Addr) (n d : Nat) : Value := .agg #[.bool c, .slice A n d]
/-- What is known of a world in which a protocol lies in a box. -/
def PrS (w X : World) (c : Bool) (A : Option Addr) (n d : Nat) (vs : List Vr) : Prop := Below w.heap.size w X ∧ BoxS X w.heap.size 27 #[.bool c, .slice A n d] ∧ VnR X A d vs
theorem PrS.step {w X Y : World} {c : Bool} {A : Option Addr} {n d : Nat} {vs : List Vr} (h : PrS w X c A n d vs) (b : Below X.heap.size X Y) : PrS w Y c A n d vs := ⟨blw h.1 b, h.2.1.below b, h.2.2.keep b⟩
theorem PrS.bel {w X : World} {c : Bool} {A : Option Addr} {n d : Nat} {vs : List Vr} (h : PrS w X c A n d vs) : Below w.heap.size w X := h.1
theorem PrS.box {w X : World} {c : Bool} {A : Option Addr} {n d : Nat} {vs : List Vr} (h : PrS w X c A n d vs) : X.cell? ⟨w.heap.size, 0, none⟩ = some (.bool c) ∧ X.cell? ⟨w.heap.size, 1, none⟩ = some (.slice A n d) := ⟨(h.2.1.cell 0).trans rfl, (h.2.1.cell 1).trans rfl⟩
theorem PrS.at {w X : World} {c : Bool} {A : Option Addr} {n d : Nat} {vs : List Vr} (h : PrS w X c A n d vs) {k : Nat} (hk : k < vs.length) : ∃ ad, A = some ad ∧ ∃ B e m, (vs.getD k v0).it.length = m ∧ X.cell? (ad.add (k * 2)) = some (.string (strOf (vs.getD k v0).tag)) ∧ X.cell? ⟨(ad.add (k * 2)).block, (ad.add (k * 2)).off + 1, none⟩ = some (.slice B m e) ∧ KR X B e (vs.getD k v0).it := by
  obtain ⟨ad, h1, h2⟩ := h.2.2.rd k hk
  exact ⟨ad, h1, h2.parts⟩
theorem PrS.new {w : World} {c : Bool} {A : Option Addr} {n d : Nat} {vs : List Vr} (R : VnR w A d vs) : PrS w (w.alloc (.cells #[.bool c, .slice A n d] 27)) c A n d vs := ⟨bal (b0 w) _, boxS_new w _ _, R.keep (bal (b0 w) _)⟩
theorem add_z (a : Addr) : (a.add 0).block = a.block := by unfold Addr.add; split <;> rfl
theorem okV_iff {vs : List Vr} {k : Nat} : okV vs k ↔ isName (vs.getD k v0).tag = true ∧ itemsB (vs.getD k v0).it 0 = true ∧ ∀ j, j < k → (vs.getD j v0).tag ≠ (vs.getD k v0).tag := by
  unfold okV mayV
  rw [Bool.and_eq_true, and_assoc]
set_option maxRecDepth 100000 in
set_option maxHeartbeats 16000000 in
theorem RMayP_any {c : Bool} {A : Option Addr} {n d : Nat} {vs : List Vr} {w : World} (R : VnR w A d vs) (hn : vs.length = n) : Calls Tryd.prog 14 #[prV c A n d] w fun e w' => e = .returned (.bool (mayP c vs)) ∧ Below w.heap.size w w' := by
  have HN := Lib.hid hn
  have hmx : n ≤ maxLen := by have := R.le; have := R.mx; omega
  unfold maxLen at hmx
  have HV := Lib.hid (PrS.new (c := c) (n := n) R)
  have CI := Lib.hid (fun (B : Option Addr) (e m least : Nat) (ks : List Nat) (W : World) (K : KR W B e ks) (hm : ks.length = m) (hl : least ≤ 1) => RItems_any K hm hl)
  have CN := Lib.hid (fun (j : Nat) (W : World) => RName_any (vs.getD j v0).tag (R.tag j) W)
  have HB0 := Lib.hid (b0 w)
  dsimp only [prV]
  cases c with
  | false =>
    rw [mayP_no, hn]
    have q1 : ((n : Int) == 1) = decide (n = 1) := nat_eq n 1
    clear hn R CN
    by_cases h1 : n = 1
    · subst h1
      obtain ⟨ad, rfl, B, e, m, hm, x0, x1, K⟩ := HV.out.at (k := 0) (by have := HN.out; omega)
      have hmm : m ≤ maxLen := by have := K.le; have := K.mx; omega
      unfold maxLen at hmm
      have he := eq_nil9 (vs.getD 0 v0).tag
      have C := Lib.hid (show Calls Tryd.prog 36 #[.slice B m e, .int .i64 1] (w.alloc (.cells #[.bool false, .slice (some ad) 1 d] 27)) (fun en w' => en = .returned (.bool (itemsB (vs.getD 0 v0).it 1)) ∧ w.alloc (.cells #[.bool false, .slice (some ad) 1 d] 27) = w') from CI.out B e m 1 _ _ K hm (by decide))
      rw [Nat.zero_mul] at x0 x1
      have hz : ad.add 0 = ad := by unfold Addr.add; simp
      rw [hz] at x0 x1
      clear K hm CI
      rw [decide_eq_true rfl, Bool.true_and]
      generalize itemsB (vs.getD 0 v0).it 1 = b1 at *
      generalize decide ((vs.getD 0 v0).tag = []) = b2 at *
      generalize strOf (vs.getD 0 v0).tag = S at *
      cases b1 <;> cases b2
      all_goals
        go_enter Tryd.func14, Tryd.ntmps14
        go_wp2_with (go_at_call 36; (with_reducible refine (C.out).mono ?_); rintro e w2 ⟨rfl, rfl⟩)
        go_ret
        exact ⟨rfl, HV.out.bel⟩
    · rw [decide_eq_false h1] at q1 ⊢
      go_enter Tryd.func14, Tryd.ntmps14
      go_wp2
      go_ret
      exact ⟨rfl, HV.out.bel⟩
  | true =>
    by_cases h1 : (n : Int) < 1
    · rw [mayP_len (.inl (by omega))]
      clear hn R CN
      go_enter Tryd.func14, Tryd.ntmps14
      go_wp2
      go_ret
      exact ⟨rfl, HV.out.bel⟩
    by_cases h2 : 16 < (n : Int)
    · rw [mayP_len (.inr (by omega))]
      clear hn R CN
      go_enter Tryd.func14, Tryd.ntmps14
      go_wp2
      go_ret
      exact ⟨rfl, HV.out.bel⟩
    have HGood := Lib.hid (fun h => mayP_good (vs := vs) (by omega) (by omega) h)
    have HBad := Lib.hid (fun (i : Nat) (h : i < n) (g : ¬ okV vs i) => mayP_bad (vs := vs) (i := i) (by omega) g)
    clear hn R
    go_enter Tryd.func14, Tryd.ntmps14
    go_wp2
    generalize w.alloc (.cells #[.bool true, .slice A n d] 27) = V at *
    go_loopw [3] (fun i wr => ∃ k : Nat, k ≤ n ∧ i = .int .i64 k ∧ Hid (PrS w wr true A n d vs ∧ ∀ j, j < k → okV vs j)) (fun i _ => n - (intOf i).toNat)
    case atStart => exact ⟨0, Nat.zero_le _, rfl, Lib.hid ⟨HV.out, fun j hj => absurd hj (by omega)⟩⟩
    case round =>
      obtain ⟨k, hk, rfl, H⟩ := hrel
      have hk0 : (0 : Int) ≤ (k : Int) := by omega
      obtain ⟨p0, p1⟩ := H.out.1.box
      by_cases hlt : (k : Int) < (n : Int)
      · obtain ⟨ad, rfl, B, e, m, hm, x0, x1, K⟩ := H.out.1.at (k := k) (by have := HN.out; omega)
        have C := Lib.hid (CN.out k)
        have HOk := Lib.hid (okV_iff (vs := vs) (k := k))
        have HK := Lib.hid (And.intro K hm)
        have HBd := Lib.hid (HBad.out k (by omega))
        have HP := Lib.hid H.out.1
        have HJ := Lib.hid H.out.2
        have hmm : m ≤ maxLen := by have := K.le; have := K.mx; omega
        unfold maxLen at hmm
        clear K hm H
        cases hnm : isName (vs.getD k v0).tag with
        | false =>
          rw [hnm] at C
          have HE := Lib.hid (HBd.out (fun g => by rw [(HOk.out.1 g).1] at hnm; cases hnm))
          clear hnm
          generalize strOf (vs.getD k v0).tag = S at *
          go_wp2_with (go_at_call 33; (with_reducible refine (C.out _).mono ?_); rintro e w2 ⟨rfl, b⟩; have H2 := Lib.hid (HP.out.step b); clear b)
          go_ret
          rw [HE.out]
          exact ⟨rfl, H2.out.bel⟩
        | true =>
          rw [hnm] at C
          have CI2 := Lib.hid (fun (X : World) (b : Below wr.heap.size wr X) => show Calls Tryd.prog 36 #[.slice B m e, .int .i64 0] X (fun en w' => en = .returned (.bool (itemsB (vs.getD k v0).it 0)) ∧ X = w') from CI.out B e m 0 _ X (HK.out.1.keep b) HK.out.2 (by decide))
          cases hit : itemsB (vs.getD k v0).it 0 with
          | false =>
            rw [hit] at CI2
            have HE := Lib.hid (HBd.out (fun g => by rw [(HOk.out.1 g).2.1] at hit; cases hit))
            clear hnm hit
            generalize strOf (vs.getD k v0).tag = S at *
            go_wp2_with (first
              | (go_at_call 33; (with_reducible refine (C.out _).mono ?_); rintro e2 w2 ⟨rfl, b⟩; have H2 := Lib.hid (And.intro (HP.out.step b) b); obtain ⟨p2, p3⟩ := H2.out.1.box; have x2 := (b.cell (g_lt x0)).trans x0; have x3 := (b.cell (g_lt x1)).trans x1; clear b)
              | (go_at_call 36; (with_reducible refine (CI2.out _ H2.out.2).mono ?_); rintro e3 w3 ⟨rfl, rfl⟩))
            go_ret
            rw [HE.out]
            exact ⟨rfl, H2.out.1.bel⟩
          | true =>
            rw [hit] at CI2
            have HYes := Lib.hid (fun (h : ∀ j, j < k → (vs.getD j v0).tag ≠ (vs.getD k v0).tag) => HOk.out.2 ⟨hnm, hit, h⟩)
            have HNo := Lib.hid (fun (j : Nat) (h : j < k) (e : (vs.getD j v0).tag = (vs.getD k v0).tag) => HBd.out (fun g => (HOk.out.1 g).2.2 j h e))
            clear hnm hit HOk HBd
            have hSk := Lib.hid (fun (j : Nat) => eqS (vs.getD j v0).tag (vs.getD k v0).tag)
            generalize hS : strOf (vs.getD k v0).tag = S at *
            have HSk := Lib.hid hS
            clear hS
            go_wp2_with (first
              | (go_at_call 33; (with_reducible refine (C.out _).mono ?_); rintro e2 w2 ⟨rfl, b⟩; have H2 := Lib.hid (And.intro (HP.out.step b) b); obtain ⟨p2, p3⟩ := H2.out.1.box; have x2 := (b.cell (g_lt x0)).trans x0; have x3 := (b.cell (g_lt x1)).trans x1; clear b)
              | (go_at_call 36; (with_reducible refine (CI2.out _ H2.out.2).mono ?_); rintro e3 w3 ⟨rfl, rfl⟩))
            go_loopw [4] (fun i wr => ∃ j : Nat, j ≤ k ∧ i = .int .i64 j ∧ Hid (PrS w wr true (some ad) n d vs ∧ ∀ i, i < j → (vs.getD i v0).tag ≠ (vs.getD k v0).tag)) (fun i _ => k - (intOf i).toNat)
            case atStart => exact ⟨0, Nat.zero_le _, rfl, Lib.hid ⟨H2.out.1, fun j hj => absurd hj (by omega)⟩⟩
            case round =>
              obtain ⟨j, hj, rfl, G⟩ := hrel
              have hj0 : (0 : Int) ≤ (j : Int) := by omega
              obtain ⟨p4, p5⟩ := G.out.1.box
              by_cases hlt2 : (j : Int) < (k : Int)
              · obtain ⟨ad2, e2, B2, e4, m2, hm2, y0, y1, K2⟩ := G.out.1.at (k := j) (by have := HN.out; omega)
                obtain ⟨ad3, e3, B3, e5, m3, hm3, z0, z1, K3⟩ := G.out.1.at (k := k) (by have := HN.out; omega)
                cases e2
                cases e3
                rw [HSk.out] at z0
                have qs := hSk.out j
                clear K2 K3 hm2 hm3 y1 z1
                by_cases heq : (vs.getD j v0).tag = (vs.getD k v0).tag
                · have HE := Lib.hid (HNo.out j (by omega) heq)
                  rw [decide_eq_true heq] at qs
                  clear heq
                  generalize strOf (vs.getD j v0).tag = S2 at *
                  go_wp2
                  go_quiet (fail)
                  have HB := Lib.hid (bdrew G.out.1.bel nq)
                  clear G y0 z0 p4 p5
                  generalize wr.drewN nq = W at *
                  go_wp2
                  go_ret
                  rw [HE.out]
                  exact ⟨rfl, HB.out⟩
                · have HY := Lib.hid (show ∀ i, i < j + 1 → (vs.getD i v0).tag ≠ (vs.getD k v0).tag from fun i hi => if h : i < j then G.out.2 i h else by rw [show i = j by omega]; exact heq)
                  rw [decide_eq_false heq] at qs
                  clear heq
                  generalize strOf (vs.getD j v0).tag = S2 at *
                  go_wp2
                  go_quiet (fail)
                  have HB := Lib.hid (And.intro (G.out.1.step (bdrew (b0 _) nq)) HY.out)
                  clear G y0 z0 p4 p5
                  generalize wr.drewN nq = W at *
                  go_wp2
                  go_roundw
                  case rel => exact ⟨j + 1, by omega, by go_num, HB⟩
                  case measure => simp [intOf]; omega
              · obtain rfl : j = k := by omega
                have HY := Lib.hid (HYes.out G.out.2)
                have HB := Lib.hid (show PrS w wr true (some ad) n d vs ∧ ∀ i, i < j + 1 → okV vs i from ⟨G.out.1, fun i hi => if h : i < j then HJ.out i h else by rw [show i = j by omega]; exact HY.out⟩)
                clear G HY HYes HNo
                go_wp2
                go_roundw
                case rel => exact ⟨j + 1, by omega, by go_num, HB⟩
                case measure => simp [intOf]; omega
      · obtain rfl : k = n := by omega
        have HE := Lib.hid (HGood.out (by rw [HN.out]; exact H.out.2))
        go_wp2
        go_ret
        rw [HE.out]
        exact ⟨rfl, H.out.1.bel⟩
end Go.Proofs.YtbkbhlbfkfnljaaDoor
