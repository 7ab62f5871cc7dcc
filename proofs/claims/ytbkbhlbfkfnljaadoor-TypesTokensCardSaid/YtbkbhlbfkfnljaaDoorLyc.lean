/- TypesVariants: its walk. -/
import Derived.Test.YtbkbhlbfkfnljaaDoorLyb
set_option linter.unusedVariables false
set_option linter.unusedSimpArgs false
namespace Go.Proofs.YtbkbhlbfkfnljaaDoor
open Go Go.RowKit L8 L9

def P9 (w X : World) (c : Bool) (A : Option Addr) (n d : Nat) (vs : List Vr) : Prop := PrS w X c A n d vs ∧ T9 X
theorem P9.step {w X Y : World} {c : Bool} {A : Option Addr} {n d : Nat} {vs : List Vr} (h : P9 w X c A n d vs) (b : Below X.heap.size X Y) : P9 w Y c A n d vs := ⟨h.1.step b, h.2.below b⟩
theorem P9.tab {w X : World} {c : Bool} {A : Option Addr} {n d : Nat} {vs : List Vr} (h : P9 w X c A n d vs) : T9 X := h.2
theorem P9.bel {w X : World} {c : Bool} {A : Option Addr} {n d : Nat} {vs : List Vr} (h : P9 w X c A n d vs) : Below w.heap.size w X := h.1.1
theorem P9.var {w X : World} {c : Bool} {A : Option Addr} {n d : Nat} {vs : List Vr} (h : P9 w X c A n d vs) : VnR X A d vs := h.1.2.2
set_option maxRecDepth 100000 in
set_option maxHeartbeats 16000000 in
theorem walkTypesVariants (c : Bool) (A : Option Addr) (n d : Nat) (vs : List Vr) (w : World) (R : VnR w A d vs) (hn : vs.length = n) (ht : T9 w) :
    Calls Tryd.prog 9 #[prV c A n d] w fun e w' => e = .returned (.bool true) ∧ Below w.heap.size w w' := by
  have HN := Lib.hid hn
  have hmx : n ≤ maxLen := by have := R.le; have := R.mx; omega
  unfold maxLen at hmx
  have HV : Hid (P9 w (w.alloc (.cells #[.bool c, .slice A n d] 27)) c A n d vs) := Lib.hid ⟨PrS.new (c := c) (n := n) R, ht.below (bal (b0 w) _)⟩
  have CH := Lib.hid (fun (W : World) (h : T9 W) => head_any W h)
  have CM : Hid (∀ X, P9 w X c A n d vs → Calls Tryd.prog 13 #[.agg #[.bool c, .slice A n d]] X fun e w' => e = .returned (.bool (mayP c vs)) ∧ Below X.heap.size X w') := Lib.hid fun X h => PMayP_any h.var hn h.tab
  have CF : Hid (∀ X k, P9 w X c A n d vs → Calls Tryd.prog 27 #[.agg #[.bool c, .slice A n d], .string (strOf (vs.getD k v0).tag)] X fun e w' => ∃ B d2, e = .returned (.tuple #[.slice B (findR c vs (vs.getD k v0).tag).1.length d2, .int .i64 ((findR c vs (vs.getD k v0).tag).2.1 : Int), .bool (findR c vs (vs.getD k v0).tag).2.2]) ∧ KR w' B d2 (findR c vs (vs.getD k v0).tag).1 ∧ Below X.heap.size X w') := Lib.hid fun X k h => (PFind_any h.var hn (vs.getD k v0).tag h.tab).mono fun e w' ⟨B, d2, h, o, g, b⟩ => ⟨B, d2, h, o.kr g, b⟩
  have HYes := Lib.hid (fun (h : mayP c vs = true) (k : Nat) (hk : k < n) => findR_own h (i := k) (by omega))
  have HNo := Lib.hid (fun (h : mayP c vs = false) (k : Nat) => findR_not h (vs.getD k v0).tag)
  dsimp only [prV]
  clear R hn ht
  generalize mayP c vs = M at *
  by_cases h40 : (40 : Int) < (n : Int)
  · go_enter Tryd.func9, Tryd.ntmps9
    go_wp2_with (go_at_call 10; (with_reducible refine (CH.out _ HV.out.tab).mono ?_); rintro e v5 ⟨rfl, b⟩; have H4 := Lib.hid (HV.out.step b); clear b)
    go_ret
    exact ⟨rfl, H4.out.bel⟩
  · go_enter Tryd.func9, Tryd.ntmps9
    go_wp2
    generalize w.alloc (.cells #[.bool c, .slice A n d] 27) = V at *
    go_loopw [3] (fun i wr => ∃ k : Nat, k ≤ n ∧ i = .int .i64 k ∧ Hid (P9 w wr c A n d vs)) (fun i _ => n - (intOf i).toNat)
    case atStart => exact ⟨0, Nat.zero_le _, rfl, HV⟩
    case round =>
      obtain ⟨k, hk, rfl, H⟩ := hrel
      have hk0 : (0 : Int) ≤ (k : Int) := by omega
      obtain ⟨p0, p1⟩ := H.out.1.box
      by_cases hlt : (k : Int) < (n : Int)
      · obtain ⟨ad, rfl, B, e, m, hm, x0, x1, K⟩ := H.out.1.at (k := k) (by have := HN.out; omega)
        have hmm : m ≤ maxLen := by have := K.le; have := K.mx; omega
        unfold maxLen at hmm
        clear K hm
        by_cases hm40 : (40 : Int) < (m : Int)
        · go_wp2_with (go_at_call 10; (with_reducible refine (CH.out _ H.out.tab).mono ?_); rintro e v5 ⟨rfl, b⟩; have H4 := Lib.hid (H.out.step b); clear b)
          go_ret
          exact ⟨rfl, H4.out.bel⟩
        · go_wp2
          go_roundw
          case rel => exact ⟨k + 1, by omega, by go_num, H⟩
          case measure => simp [intOf]; omega
      · obtain rfl : k = n := by omega
        go_wp2_with (go_at_call 13; (with_reducible refine (CM.out _ H.out).mono ?_); rintro e v6 ⟨rfl, b⟩; have H5 := Lib.hid (H.out.step b); clear b)
        clear H CM
        go_loopw [5] (fun i wr => ∃ j : Nat, j ≤ k ∧ i = .int .i64 j ∧ Hid (P9 w wr c A k d vs)) (fun i _ => k - (intOf i).toNat)
        case atStart => exact ⟨0, Nat.zero_le _, rfl, H5⟩
        case round =>
          obtain ⟨j, hj, rfl, G⟩ := hrel
          have hj0 : (0 : Int) ≤ (j : Int) := by omega
          clear p0 p1
          obtain ⟨p0, p1⟩ := G.out.1.box
          by_cases hlt2 : (j : Int) < (k : Int)
          · obtain ⟨ad, rfl, B, e, m, hm, x0, x1, K⟩ := G.out.1.at (k := j) (by have := HN.out; omega)
            have HK := Lib.hid (And.intro K hm)
            clear K hm
            have HG := Lib.hid (show P9 w wr.drew c (some ad) k d vs from G.out.step (bdrew (b0 _) 1))
            have C := Lib.hid (CF.out wr.drew j HG.out)
            cases M with
            | true =>
              have HE := Lib.hid (HYes.out rfl j (by omega))
              have HS := Lib.hid (fun (X : World) (B2 : Option Addr) (d2 : Nat) (Q : KR X B2 d2 (vs.getD j v0).it) (b : Below wr.heap.size wr X) => show Calls Tryd.prog 29 #[.slice B2 m d2, .slice B m e] X (fun en w' => en = .returned (.bool true) ∧ Below X.heap.size X w') from by
                have := RSameKinds_any Q (HK.out.1.keep b) HK.out.2 HK.out.2
                rwa [decide_eq_true rfl] at this)
              rw [HE.out] at C
              dsimp only at C
              rw [HK.out.2] at C
              clear HE
              generalize strOf (vs.getD j v0).tag = S at *
              have q1 : ((j : Int) != (j : Int)) = false := by simp
              go_wp2_with fail
              go_region_held3 (fun w' => w'.cell? ⟨w.heap.size, 0, none⟩ = some (.bool c) ∧ w'.cell? ⟨w.heap.size, 1, none⟩ = some (.slice (some ad) k d) ∧ w'.cell? (ad.add (j * 2)) = some (.string S))
                (first | (exact ⟨p0, p1, x0⟩) | go_keep)
                (first | (go_at_call 27; (with_reducible refine (C.out).mono ?_); rintro e7 v7 ⟨B2, d2, rfl, Q, b⟩; have G2 := Lib.hid (And.intro (HG.out.step b) (And.intro Q (blw (bdrew (b0 wr) 1) b))); have p2 := (b.cell (g_lt p0)).trans p0; have p3 := (b.cell (g_lt p1)).trans p1; have x2 := (b.cell (g_lt x0)).trans x0; have x3 := (b.cell (g_lt x1)).trans x1; clear b Q))
              all_goals
                go_wp2_with (go_at_call 29; (with_reducible refine (HS.out _ _ _ G2.out.2.1 G2.out.2.2).mono ?_); rintro e8 v8 ⟨rfl, b⟩; have G3 := Lib.hid (G2.out.1.step b); clear b)
                go_roundw
                case rel => exact ⟨j + 1, by omega, by go_num, G3⟩
                case measure => simp [intOf]; omega
            | false =>
              have HE := Lib.hid (HNo.out rfl j)
              rw [HE.out] at C
              dsimp only at C
              clear HE
              generalize strOf (vs.getD j v0).tag = S at *
              go_wp2_with fail
              go_region_held3 (fun w' => w'.cell? ⟨w.heap.size, 0, none⟩ = some (.bool c) ∧ w'.cell? ⟨w.heap.size, 1, none⟩ = some (.slice (some ad) k d) ∧ w'.cell? (ad.add (j * 2)) = some (.string S))
                (first | (exact ⟨p0, p1, x0⟩) | go_keep)
                (first | (go_at_call 27; (with_reducible refine (C.out).mono ?_); rintro e7 v7 ⟨B2, d2, rfl, Q, b⟩; have G2 := Lib.hid (HG.out.step b); have p2 := (b.cell (g_lt p0)).trans p0; have p3 := (b.cell (g_lt p1)).trans p1; have x2 := (b.cell (g_lt x0)).trans x0; clear b Q))
              all_goals
                go_wp2
                go_roundw
                case rel => exact ⟨j + 1, by omega, by go_num, G2⟩
                case measure => simp [intOf]; omega
          · obtain rfl : j = k := by omega
            go_wp2_with (go_at_call 10; (with_reducible refine (CH.out _ G.out.tab).mono ?_); rintro e v5 ⟨rfl, b⟩; have H4 := Lib.hid (G.out.step b); clear b)
            go_ret
            exact ⟨rfl, H4.out.bel⟩
end Go.Proofs.YtbkbhlbfkfnljaaDoor
