/- TypesFind: its walk. -/
import Derived.Test.YtbkbhlbfkfnljaaDoorLyc
import Derived.Test.YtbkbhlbfkfnljaaDoorRfi
set_option linter.unusedVariables false
set_option linter.unusedSimpArgs false
namespace Go.Proofs.YtbkbhlbfkfnljaaDoor
open Go Go.RowKit L8 L9

theorem kr_other {w w' : World} {A : Option Addr} {c : Nat} {ks : List Nat} {r : Option Nat} (h : KR w A c ks) (g : w.grownBy w' r) (hA : ∀ ad, A = some ad → 0 < ks.length → some ad.block ≠ r) : KR w' A c ks :=
  ⟨h.le, h.mx, h.ok, fun j hj => by obtain ⟨ad, e, hl⟩ := h.rd j hj; exact ⟨ad, e, g.cell hl (by rw [add_block]; exact hA ad e (by omega))⟩⟩
theorem ownK_e (v : World) : OwnK (v.alloc (.cells #[] 22)) v.heap.size (some ⟨v.heap.size, 0, none⟩) 0 0 [] :=
  ⟨rfl, .inr ⟨v.heap.size, 0, #[], rfl, Nat.le_refl _, boxS_new v _ _, Nat.le_refl _, by simp [maxLen], rfl, rfl⟩⟩
theorem ownK_some {w : World} {B n c : Nat} {A : Option Addr} {ks : List Nat} (h : OwnK w B A n c ks) (hn : 0 < n) : ∃ g, A = some ⟨g, 0, none⟩ := by
  have hl := h.len
  rcases h.2 with ⟨hv, h0⟩ | ⟨g, cap, cur, hv, _⟩
  · omega
  · injection hv with h1 h2 h3
    exact ⟨g, h1⟩
theorem ownK_at {w : World} {B g n c j : Nat} {ks : List Nat} (h : OwnK w B (some ⟨g, 0, none⟩) n c ks) (hj : j < n) : w.cell? ⟨g, j, none⟩ = some (.int .u8 ((ks.getD j 0 : Nat) : Int)) ∧ w.frozen? ⟨g, j, none⟩ = false := by
  have hl := h.len
  exact ⟨(World.ownsRow.cellAt h j (by omega)).trans (kC_at (by omega)), World.ownsRow.frozenAt h j⟩
theorem ownK_store {w : World} {B g n c : Nat} {ks : List Nat} (h : OwnK w B (some ⟨g, 0, none⟩) n c ks) (j v : Nat) :
    OwnK (w.setCell ⟨g, j, none⟩ (.int .u8 (v : Int))) B (some ⟨g, 0, none⟩) n c (ks.set j v) ∧ w.grownBy (w.setCell ⟨g, j, none⟩ (.int .u8 (v : Int))) (some g) := by
  have := World.ownsRow.stored h j (.int .u8 (v : Int))
  unfold OwnK
  rw [kC_set]
  exact this
theorem ownK_ge {w : World} {B n c : Nat} {A : Option Addr} {ks : List Nat} (h : OwnK w B A n c ks) {ad : Addr} (e : A = some ad) : B ≤ ad.block ∧ ad.block < w.heap.size := by
  subst e
  exact h.lt ad.block rfl
theorem OK8.set {ks : List Nat} (h : OK8 ks) {v : Nat} (hv : v < 256) (j : Nat) : OK8 (ks.set j v) := fun k hk => (List.mem_or_eq_of_mem_set hk).elim (h k) (fun e => by rw [e]; exact hv)
theorem next8 {k : Nat} (h : k < 256) : ∃ v : Nat, v < 256 ∧ IntKind.u8.wrap ((k : Int) + 1) = (v : Int) := by
  by_cases h2 : k < 255
  · exact ⟨k + 1, by omega, by rw [IntWalk.u8_in _ (by omega)]; omega⟩
  · obtain rfl : k = 255 := by omega
    exact ⟨0, by omega, by decide⟩
/-- What is known while the program's list is turned: what was there before it stays, the copy stays, the list is a row of kinds. -/
def Fd (W X : World) (B1 B3 : Option Addr) (m d1 d3 : Nat) (l : List Nat) : Prop := Below W.heap.size W X ∧ KR X B3 d3 l ∧ (∀ ad, B3 = some ad → ∀ ae, B1 = some ae → ae.block ≠ ad.block) ∧ ∃ ks, OwnK X W.heap.size B1 m d1 ks ∧ OK8 ks
theorem Fd.turn {W X : World} {B3 : Option Addr} {g m d1 d3 : Nat} {l : List Nat} (h : Fd W X (some ⟨g, 0, none⟩) B3 m d1 d3 l) {j : Nat} (hj : j < m) : ∃ k v : Nat, k < 256 ∧ X.cell? ⟨g, j, none⟩ = some (.int .u8 (k : Int)) ∧ X.frozen? ⟨g, j, none⟩ = false ∧ IntKind.u8.wrap ((k : Int) + 1) = (v : Int) ∧ Fd W (X.setCell ⟨g, j, none⟩ (.int .u8 (v : Int))) (some ⟨g, 0, none⟩) B3 m d1 d3 l := by
  obtain ⟨b, K, hne, ks, o, ho⟩ := h
  obtain ⟨c1, c2⟩ := ownK_at o hj
  obtain ⟨v, hv, hw⟩ := next8 (ho.get j)
  have hg := (ownK_ge o rfl).1
  obtain ⟨s1, s2⟩ := ownK_store o j v
  exact ⟨ks.getD j 0, v, ho.get j, c1, c2, hw, bset b hg _, kr_other K s2 (fun ad e _ h => hne ad e _ rfl (by injection h with h; exact h.symm)), hne, ks.set j v, s1, ho.set hv j⟩
theorem Fd.bel {W X : World} {B1 B3 : Option Addr} {m d1 d3 : Nat} {l : List Nat} (h : Fd W X B1 B3 m d1 d3 l) : Below W.heap.size W X := h.1
theorem Fd.k3 {W X : World} {B1 B3 : Option Addr} {m d1 d3 : Nat} {l : List Nat} (h : Fd W X B1 B3 m d1 d3 l) : KR X B3 d3 l := h.2.1
theorem Fd.some {W X : World} {B1 B3 : Option Addr} {m d1 d3 : Nat} {l : List Nat} (h : Fd W X B1 B3 m d1 d3 l) (hm : 0 < m) : ∃ g, B1 = some ⟨g, 0, none⟩ := by
  obtain ⟨_, _, _, ks, o, _⟩ := h
  exact ownK_some o hm
set_option maxRecDepth 100000 in
set_option maxHeartbeats 16000000 in
theorem walkTypesFind (c : Bool) (A : Option Addr) (n d : Nat) (vs : List Vr) (a1 : ByteArray) (w1 : a1.size ≤ maxLen) (w : World) (R : VnR w A d vs) (hn : vs.length = n) (ht : T9 w) :
    Calls Tryd.prog 7 #[prV c A n d, .string a1] w fun e w' => e = .returned (.bool true) ∧ Below w.heap.size w w' := by
  obtain ⟨tag, rfl⟩ : ∃ l : Bs, a1 = strOf l := ⟨_, str_self a1⟩
  have HN := Lib.hid hn
  have hmx : n ≤ maxLen := by have := R.le; have := R.mx; omega
  unfold maxLen at hmx
  have HV : Hid (P9 w (w.alloc (.cells #[.bool c, .slice A n d] 27)) c A n d vs) := Lib.hid ⟨PrS.new (c := c) (n := n) R, ht.below (bal (b0 w) _)⟩
  have CH := Lib.hid (fun (W : World) (h : T9 W) => head_any W h)
  have CF : Hid (∀ X, P9 w X c A n d vs → Calls Tryd.prog 27 #[.agg #[.bool c, .slice A n d], .string (strOf tag)] X (GivesFo X (findR c vs tag))) := Lib.hid fun X h => PFind_any h.var hn tag h.tab
  have CR : Hid (∀ W X, P9 w W c A n d vs → Below W.heap.size W X → Calls Tryd.prog 28 #[.agg #[.bool c, .slice A n d], .string (strOf tag)] X (GivesF0 W X (findR c vs tag))) := Lib.hid fun W X h b => RFind_from h.var b hn tag
  have hl8 : (findR c vs tag).1.length ≤ 8 := by
    unfold findR
    cases hf : findP c vs tag with
    | none => simp
    | some i =>
      unfold findP at hf
      split at hf
      · rename_i hm
        exact mayP_items hm (idx_some.1 hf).1
      · cases hf
  dsimp only [prV]
  clear R hn ht w1
  generalize findR c vs tag = r at *
  obtain ⟨l, i, ok⟩ := r
  unfold GivesFo at CF
  unfold GivesF0 at CR
  dsimp only at CF CR hl8
  have HL8 := Lib.hid hl8
  obtain ⟨m, hm⟩ : ∃ m, l.length = m := ⟨_, rfl⟩
  rw [hm] at CF CR hl8
  have HM := Lib.hid hm
  clear hm
  have hm0 : (0 : Int) ≤ (m : Int) := by omega
  have hm8 : (m : Int) ≤ 8 := by omega
  have q1 : ((i : Int) != (i : Int)) = false := by simp
  have q2 : (ok != ok) = false := by simp
  have CS : Hid (∀ (X : World) (B1 B2 : Option Addr) (d1 d2 : Nat), KR X B1 d1 l → KR X B2 d2 l → Calls Tryd.prog 29 #[.slice B1 m d1, .slice B2 m d2] X fun e w' => e = .returned (.bool true) ∧ Below X.heap.size X w') := Lib.hid fun X B1 B2 d1 d2 K1 K2 => by
    have := RSameKinds_any K1 K2 HM.out HM.out
    rwa [decide_eq_true rfl] at this
  generalize strOf tag = S at *
  by_cases h40 : (40 : Int) < (n : Int)
  · go_enter Tryd.func7, Tryd.ntmps7
    go_wp2_with (go_at_call 10; (with_reducible refine (CH.out _ HV.out.tab).mono ?_); rintro e v5 ⟨rfl, b⟩; have H4 := Lib.hid (HV.out.step b); clear b)
    go_ret
    exact ⟨rfl, H4.out.bel⟩
  · go_enter Tryd.func7, Tryd.ntmps7
    go_wp2
    generalize w.alloc (.cells #[.bool c, .slice A n d] 27) = V at *
    go_loopw [5] (fun i wr => ∃ k : Nat, k ≤ n ∧ i = .int .i64 k ∧ Hid (P9 w wr c A n d vs)) (fun i _ => n - (intOf i).toNat)
    case atStart => exact ⟨0, Nat.zero_le _, rfl, HV⟩
    case round =>
      obtain ⟨k, hk, rfl, H⟩ := hrel
      have hk0 : (0 : Int) ≤ (k : Int) := by omega
      obtain ⟨p0, p1⟩ := H.out.1.box
      by_cases hlt : (k : Int) < (n : Int)
      · obtain ⟨ad, rfl, B, e, mm, hm, x0, x1, K⟩ := H.out.1.at (k := k) (by have := HN.out; omega)
        have hmm : mm ≤ maxLen := by have := K.le; have := K.mx; omega
        unfold maxLen at hmm
        clear K hm
        by_cases hm40 : (40 : Int) < (mm : Int)
        · go_wp2_with (go_at_call 10; (with_reducible refine (CH.out _ H.out.tab).mono ?_); rintro e v5 ⟨rfl, b⟩; have H4 := Lib.hid (H.out.step b); clear b)
          go_ret
          exact ⟨rfl, H4.out.bel⟩
        · go_wp2
          go_roundw
          case rel => exact ⟨k + 1, by omega, by go_num, H⟩
          case measure => simp [intOf]; omega
      · obtain rfl : k = n := by omega
        go_wp2_with (first
          | (go_at_call 27; (with_reducible refine (CF.out _ H.out).mono ?_); rintro e v1 ⟨B1, d1, rfl, o1, ho1, b1⟩; have H1 := Lib.hid (And.intro (H.out.step b1) (And.intro o1 (And.intro ho1 b1))); clear o1 ho1 b1; obtain ⟨p2, p3⟩ := H1.out.1.1.box)
          | (go_at_call 28; (with_reducible refine (CR.out _ _ H.out H1.out.2.2.2).mono ?_); rintro e v2 ⟨B2, d2, rfl, K2, b2⟩; have H2 := Lib.hid (And.intro (H1.out.1.step b2) (And.intro (H1.out.2.1.keep b2) (And.intro H1.out.2.2.1 (And.intro (blw H1.out.2.2.2 b2) K2)))); clear K2 b2)
          | (go_at_call 29; (with_reducible refine (CS.out _ _ _ _ _ (H2.out.2.1.kr H2.out.2.2.1) (H2.out.2.2.2.2.keep H2.out.2.2.2.1)).mono ?_); rintro e v3 ⟨rfl, b3⟩; have H3 := Lib.hid (And.intro (H2.out.1.step b3) (And.intro (H2.out.2.1.keep b3) (And.intro H2.out.2.2.1 (And.intro (blw H2.out.2.2.2.1 b3) H2.out.2.2.2.2)))); clear b3)
          | (at_builtin; (refine app_kinds rfl (.tmp 63) (.tmp 64) rfl v3.heap.size 0 0 m d2 m (some ⟨v3.heap.size, 0, none⟩) B2 [] l rfl rfl (ownK_e v3) HM.out ((H3.out.2.2.2.2.keep H3.out.2.2.2.1).keep (bal (b0 v3) _)) (by omega) (by omega) (bal (b0 v3) _).size ?_; intro B3 d3 v4 o3 g3; have B4 := Lib.hid (bgrow (bal (b0 v3) (.cells #[] 22)) (ownK_e v3) (Nat.le_refl _) g3); have H4 := Lib.hid (And.intro (show Fd wr v4 B1 B3 m d1 d3 l from ⟨blw H3.out.2.2.2.1 B4.out, o3.kr H3.out.2.2.2.2.ok, fun ad e ae e2 h => by have x := (ownK_ge o3 e).1; have y := (ownK_ge H3.out.2.1 e2).2; omega, l, H3.out.2.1.keep B4.out, H3.out.2.2.2.2.ok⟩) H3.out.2.2.2.2); clear o3 g3)))
        have HW := Lib.hid H.out
        clear H H1 H2 H3 CF CR B4
        generalize wr = W at *
        go_loopw [13] (fun i wr => ∃ j : Nat, j ≤ m ∧ i = .int .i64 j ∧ Hid (Fd W wr B1 B3 m d1 d3 l)) (fun i _ => m - (intOf i).toNat)
        case atStart => exact ⟨0, Nat.zero_le _, rfl, Lib.hid H4.out.1⟩
        case round =>
          obtain ⟨j, hj, rfl, G⟩ := hrel
          have hj0 : (0 : Int) ≤ (j : Int) := by omega
          by_cases hlt2 : (j : Int) < (m : Int)
          · obtain ⟨g, rfl⟩ := G.out.some (by omega)
            obtain ⟨kk, v, hkk, e0, e1, e2, hT⟩ := G.out.turn (j := j) (by omega)
            have HT := Lib.hid hT
            have hkk0 : (0 : Int) ≤ (kk : Int) := by omega
            clear hT G H4
            go_wp2
            go_roundw
            case rel => exact ⟨j + 1, by omega, by go_num, HT⟩
            case measure => simp [intOf]; omega
          · obtain rfl : j = m := by omega
            have HE := Lib.hid (HW.out.step G.out.bel)
            go_wp2_with (first
              | (go_at_call 29; (with_reducible refine (CS.out _ _ _ _ _ (H4.out.2.keep G.out.bel) G.out.k3).mono ?_); rintro e v5 ⟨rfl, b5⟩; have H5 := Lib.hid (HE.out.step b5); clear b5)
              | (go_at_call 10; (with_reducible refine (CH.out _ H5.out.tab).mono ?_); rintro e v6 ⟨rfl, b⟩; have H6 := Lib.hid (H5.out.step b); clear b))
            go_ret
            exact ⟨rfl, H6.out.bel⟩
end Go.Proofs.YtbkbhlbfkfnljaaDoor
