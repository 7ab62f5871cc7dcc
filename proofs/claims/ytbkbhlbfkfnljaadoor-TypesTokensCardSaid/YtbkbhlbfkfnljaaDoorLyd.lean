/- TypesMay: its walk. -/
import Derived.Test.YtbkbhlbfkfnljaaDoorLyc
set_option linter.unusedVariables false
set_option linter.unusedSimpArgs false
namespace Go.Proofs.YtbkbhlbfkfnljaaDoor
open Go Go.RowKit L8 L9

def M9 (w X : World) (t u : Ty) (c : Bool) (A : Option Addr) (n d : Nat) (vs : List Vr) : Prop := Below w.heap.size w X ∧ T9 X ∧ BoxS X w.heap.size 24 (tyC t) ∧ BoxS X (w.heap.size + 1) 24 (tyC u) ∧ BoxS X (w.heap.size + 2) 27 #[.bool c, .slice A n d] ∧ VnR X A d vs
theorem M9.step {w X Y : World} {t u : Ty} {c : Bool} {A : Option Addr} {n d : Nat} {vs : List Vr} (h : M9 w X t u c A n d vs) (b : Below X.heap.size X Y) : M9 w Y t u c A n d vs := by
  obtain ⟨h1, h2, h3, h4, h5, h6⟩ := h
  exact ⟨blw h1 b, h2.below b, h3.below b, h4.below b, h5.below b, h6.keep b⟩
theorem M9.bel {w X : World} {t u : Ty} {c : Bool} {A : Option Addr} {n d : Nat} {vs : List Vr} (h : M9 w X t u c A n d vs) : Below w.heap.size w X := h.1
theorem M9.tab {w X : World} {t u : Ty} {c : Bool} {A : Option Addr} {n d : Nat} {vs : List Vr} (h : M9 w X t u c A n d vs) : T9 X := h.2.1
theorem M9.var {w X : World} {t u : Ty} {c : Bool} {A : Option Addr} {n d : Nat} {vs : List Vr} (h : M9 w X t u c A n d vs) : VnR X A d vs := h.2.2.2.2.2
theorem M9.at {w X : World} {t u : Ty} {c : Bool} {A : Option Addr} {n d : Nat} {vs : List Vr} (h : M9 w X t u c A n d vs) {k : Nat} (hk : k < vs.length) : ∃ ad, A = some ad ∧ ∃ B e m, (vs.getD k v0).it.length = m ∧ X.cell? (ad.add (k * 2)) = some (.string (strOf (vs.getD k v0).tag)) ∧ X.cell? ⟨(ad.add (k * 2)).block, (ad.add (k * 2)).off + 1, none⟩ = some (.slice B m e) ∧ KR X B e (vs.getD k v0).it := by
  obtain ⟨ad, h1, h2⟩ := h.var.rd k hk
  exact ⟨ad, h1, h2.parts⟩
theorem M9.cells {w X : World} {t u : Ty} {c : Bool} {A : Option Addr} {n d : Nat} {vs : List Vr} (h : M9 w X t u c A n d vs) : (X.cell? ⟨w.heap.size, 0, none⟩ = some (.int .u8 (t.k : Int)) ∧ X.cell? ⟨w.heap.size, 1, none⟩ = some (.int .i64 t.d) ∧ X.cell? ⟨w.heap.size, 2, none⟩ = some (.int .u8 (t.i : Int)) ∧ X.cell? ⟨w.heap.size, 3, none⟩ = some (.string (strOf t.p))) ∧ (X.cell? ⟨w.heap.size + 1, 0, none⟩ = some (.int .u8 (u.k : Int)) ∧ X.cell? ⟨w.heap.size + 1, 1, none⟩ = some (.int .i64 u.d) ∧ X.cell? ⟨w.heap.size + 1, 2, none⟩ = some (.int .u8 (u.i : Int)) ∧ X.cell? ⟨w.heap.size + 1, 3, none⟩ = some (.string (strOf u.p))) ∧ (X.cell? ⟨w.heap.size + 2, 0, none⟩ = some (.bool c) ∧ X.cell? ⟨w.heap.size + 2, 1, none⟩ = some (.slice A n d)) :=
  ⟨(box4T h.2.2.1).1, (box4T h.2.2.2.1).1, (h.2.2.2.2.1.cell 0).trans rfl, (h.2.2.2.2.1.cell 1).trans rfl⟩
theorem M9.new {w : World} {t u : Ty} {c : Bool} {A : Option Addr} {n d : Nat} {vs : List Vr} (R : VnR w A d vs) (ht : T9 w) : M9 w (((w.alloc (.cells (tyC t) 24)).alloc (.cells (tyC u) 24)).alloc (.cells #[.bool c, .slice A n d] 27)) t u c A n d vs := by
  have b := bal (bal (bal (b0 w) (.cells (tyC t) 24)) (.cells (tyC u) 24)) (.cells #[.bool c, .slice A n d] 27)
  have e1 : (w.alloc (.cells (tyC t) 24)).heap.size = w.heap.size + 1 := World.size_alloc ..
  have e2 : ((w.alloc (.cells (tyC t) 24)).alloc (.cells (tyC u) 24)).heap.size = w.heap.size + 2 := by rw [World.size_alloc, e1]
  have h2 := boxS_new (w.alloc (.cells (tyC t) 24)) 24 (tyC u)
  have h3 := boxS_new ((w.alloc (.cells (tyC t) 24)).alloc (.cells (tyC u) 24)) 27 #[.bool c, .slice A n d]
  rw [e1] at h2
  rw [e2] at h3
  exact ⟨b, ht.below b, ((boxS_new w _ _).alloc _).alloc _, h2.alloc _, h3, R.keep b⟩
set_option maxRecDepth 100000 in
set_option maxHeartbeats 16000000 in
theorem walkTypesMay (a0 a1 : Ty) (w0 : OKt a0) (w1 : OKt a1) (c : Bool) (A : Option Addr) (n d : Nat) (vs : List Vr) (w : World) (R : VnR w A d vs) (hn : vs.length = n) (ht : T9 w) :
    Calls Tryd.prog 3 #[tyV a0, tyV a1, prV c A n d] w fun e w' => e = .returned (.bool true) ∧ Below w.heap.size w w' := by
  have HN := Lib.hid hn
  have hmx : n ≤ maxLen := by have := R.le; have := R.mx; omega
  unfold maxLen at hmx
  have HV := Lib.hid (M9.new (t := a0) (u := a1) (c := c) (n := n) R ht)
  have CH := Lib.hid (fun (W : World) (h : T9 W) => head_any W h)
  have C1 := Lib.hid (fun (W : World) (h : T9 W) => PMay_any a0 w0 W h)
  have C2 := Lib.hid (fun (W : World) => RMayT_any a0 w0 W)
  have C3 : Hid (∀ X, VnR X A d vs → T9 X → Calls Tryd.prog 13 #[.agg #[.bool c, .slice A n d]] X fun e w' => e = .returned (.bool (mayP c vs)) ∧ Below X.heap.size X w') := Lib.hid fun X h t9 => PMayP_any h hn t9
  have C4 : Hid (∀ X, VnR X A d vs → Calls Tryd.prog 14 #[.agg #[.bool c, .slice A n d]] X fun e w' => e = .returned (.bool (mayP c vs)) ∧ Below X.heap.size X w') := Lib.hid fun X h => RMayP_any h hn
  have C5 := Lib.hid (fun (W : World) (h : T9 W) => PWords_any a0 w0 W h)
  have C6 := Lib.hid (fun (W : World) => RWords_any a0 w0 W)
  have C7 := Lib.hid (fun (W : World) (h : T9 W) => PSame_any a0 a1 W h)
  have C8 : Hid (∀ (W : World), T9 W → Calls Tryd.prog 17 #[tyV a0, tyV a0] W fun e w' => e = .returned (.bool true) ∧ Below W.heap.size W w') := Lib.hid fun W h => by
    have := PSame_any a0 a0 W h
    rwa [decide_eq_true rfl] at this
  have hq := fun W => eq_ty a0 a1 W
  dsimp only [prV, tyV, tyC] at *
  clear R hn ht w0 w1
  generalize mayP c vs = b1 at *
  generalize mayT a0 = b2 at *
  generalize wordsT a0 = z at *
  generalize decide (a0 = a1) = b3 at *
  have q1 : (b1 == b1) = true := by simp
  have q2 : (b2 == b2) = true := by simp
  have q3 : (b3 == b3) = true := by simp
  have q4 : (z == z) = true := by simp
  by_cases h40 : (40 : Int) < (n : Int)
  · go_enter Tryd.func3, Tryd.ntmps3
    go_wp2_with (go_at_call 10; (with_reducible refine (CH.out _ HV.out.tab).mono ?_); rintro e v5 ⟨rfl, b⟩; have H4 := Lib.hid (HV.out.step b); clear b)
    go_ret
    exact ⟨rfl, H4.out.bel⟩
  · go_enter Tryd.func3, Tryd.ntmps3
    go_wp2
    generalize ((w.alloc (.cells #[.int .u8 (a0.k : Int), .int .i64 a0.d, .int .u8 (a0.i : Int), .string (strOf a0.p)] 24)).alloc (.cells #[.int .u8 (a1.k : Int), .int .i64 a1.d, .int .u8 (a1.i : Int), .string (strOf a1.p)] 24)).alloc (.cells #[.bool c, .slice A n d] 27) = V at *
    go_loopw [7] (fun i wr => ∃ k : Nat, k ≤ n ∧ i = .int .i64 k ∧ Hid (M9 w wr a0 a1 c A n d vs)) (fun i _ => n - (intOf i).toNat)
    case atStart => exact ⟨0, Nat.zero_le _, rfl, HV⟩
    case round =>
      obtain ⟨k, hk, rfl, H⟩ := hrel
      have hk0 : (0 : Int) ≤ (k : Int) := by omega
      obtain ⟨⟨x0, x1, x2, x3⟩, ⟨y0, y1, y2, y3⟩, p0, p1⟩ := H.out.cells
      by_cases hlt : (k : Int) < (n : Int)
      · obtain ⟨ad, rfl, B, e, m, hm, z0, z1, K⟩ := H.out.at (k := k) (by have := HN.out; omega)
        have hmm : m ≤ maxLen := by have := K.le; have := K.mx; omega
        unfold maxLen at hmm
        clear K hm
        by_cases hm40 : (40 : Int) < (m : Int)
        · go_wp2_with (go_at_call 10; (with_reducible refine (CH.out _ H.out.tab).mono ?_); rintro e v5 ⟨rfl, b⟩; have H4 := Lib.hid (H.out.step b); clear b)
          go_ret
          exact ⟨rfl, H4.out.bel⟩
        · go_wp2
          go_roundw
          case rel => exact ⟨k + 1, by omega, by go_num, H⟩
          case measure => simp [intOf]; omega
      · obtain rfl : k = n := by omega
        go_wp2_with fail
        replace H := Lib.hid (show M9 w wr.drew a0 a1 c A k d vs from H.out.step (bdrew (b0 _) 1))
        have HCells := fun (X : World) (h : M9 w X a0 a1 c A k d vs) => h.cells
        generalize strOf a0.p = S0 at *
        generalize strOf a1.p = S1 at *
        replace HCells := Lib.hid HCells
        go_region_held3 (fun w' => w'.cell? ⟨w.heap.size, 0, none⟩ = some (.int .u8 (a0.k : Int)) ∧ w'.cell? ⟨w.heap.size, 1, none⟩ = some (.int .i64 a0.d) ∧ w'.cell? ⟨w.heap.size, 2, none⟩ = some (.int .u8 (a0.i : Int)) ∧ w'.cell? ⟨w.heap.size, 3, none⟩ = some (.string S0) ∧ w'.cell? ⟨w.heap.size + 1, 0, none⟩ = some (.int .u8 (a1.k : Int)) ∧ w'.cell? ⟨w.heap.size + 1, 1, none⟩ = some (.int .i64 a1.d) ∧ w'.cell? ⟨w.heap.size + 1, 2, none⟩ = some (.int .u8 (a1.i : Int)) ∧ w'.cell? ⟨w.heap.size + 1, 3, none⟩ = some (.string S1) ∧ w'.cell? ⟨w.heap.size + 2, 0, none⟩ = some (.bool c) ∧ w'.cell? ⟨w.heap.size + 2, 1, none⟩ = some (.slice A k d))
          (first | (exact ⟨x0, x1, x2, x3, y0, y1, y2, y3, p0, p1⟩) | go_keep)
          (first
            | (go_at_call 11; (with_reducible refine (C1.out _ H.out.tab).mono ?_); rintro e v1 ⟨rfl, b⟩; replace H := Lib.hid (H.out.step b); clear b x0 x1 x2 x3 y0 y1 y2 y3 p0 p1; obtain ⟨⟨x0, x1, x2, x3⟩, ⟨y0, y1, y2, y3⟩, p0, p1⟩ := HCells.out _ H.out)
            | (go_at_call 12; (with_reducible refine (C2.out _).mono ?_); rintro e v2 ⟨rfl, b⟩; replace H := Lib.hid (H.out.step b); clear b x0 x1 x2 x3 y0 y1 y2 y3 p0 p1; obtain ⟨⟨x0, x1, x2, x3⟩, ⟨y0, y1, y2, y3⟩, p0, p1⟩ := HCells.out _ H.out)
            | (go_at_call 13; (with_reducible refine (C3.out _ H.out.var H.out.tab).mono ?_); rintro e v3 ⟨rfl, b⟩; replace H := Lib.hid (H.out.step b); clear b x0 x1 x2 x3 y0 y1 y2 y3 p0 p1; obtain ⟨⟨x0, x1, x2, x3⟩, ⟨y0, y1, y2, y3⟩, p0, p1⟩ := HCells.out _ H.out)
            | (go_at_call 14; (with_reducible refine (C4.out _ H.out.var).mono ?_); rintro e v4 ⟨rfl, b⟩; replace H := Lib.hid (H.out.step b); clear b x0 x1 x2 x3 y0 y1 y2 y3 p0 p1; obtain ⟨⟨x0, x1, x2, x3⟩, ⟨y0, y1, y2, y3⟩, p0, p1⟩ := HCells.out _ H.out)
            | (go_at_call 15; (with_reducible refine (C5.out _ H.out.tab).mono ?_); rintro e v5 ⟨rfl, b⟩; replace H := Lib.hid (H.out.step b); clear b x0 x1 x2 x3 y0 y1 y2 y3 p0 p1; obtain ⟨⟨x0, x1, x2, x3⟩, ⟨y0, y1, y2, y3⟩, p0, p1⟩ := HCells.out _ H.out)
            | (go_at_call 16; (with_reducible refine (C6.out _).mono ?_); rintro e v6 ⟨rfl, b⟩; replace H := Lib.hid (H.out.step b); clear b x0 x1 x2 x3 y0 y1 y2 y3 p0 p1; obtain ⟨⟨x0, x1, x2, x3⟩, ⟨y0, y1, y2, y3⟩, p0, p1⟩ := HCells.out _ H.out)
            | (go_at_call 17; (with_reducible refine (C7.out _ H.out.tab).mono ?_); rintro e v7 ⟨rfl, b⟩; replace H := Lib.hid (H.out.step b); clear b x0 x1 x2 x3 y0 y1 y2 y3 p0 p1; obtain ⟨⟨x0, x1, x2, x3⟩, ⟨y0, y1, y2, y3⟩, p0, p1⟩ := HCells.out _ H.out)
            | (go_at_call 17; (with_reducible refine (C8.out _ H.out.tab).mono ?_); rintro e v8 ⟨rfl, b⟩; replace H := Lib.hid (H.out.step b); clear b x0 x1 x2 x3 y0 y1 y2 y3 p0 p1; obtain ⟨⟨x0, x1, x2, x3⟩, ⟨y0, y1, y2, y3⟩, p0, p1⟩ := HCells.out _ H.out)
            | (go_at_call 10; (with_reducible refine (CH.out _ H.out.tab).mono ?_); rintro e v9 ⟨rfl, b⟩; replace H := Lib.hid (H.out.step b); clear b x0 x1 x2 x3 y0 y1 y2 y3 p0 p1; obtain ⟨⟨x0, x1, x2, x3⟩, ⟨y0, y1, y2, y3⟩, p0, p1⟩ := HCells.out _ H.out))
        all_goals go_wp2
        all_goals (go_ret; exact ⟨rfl, H.out.bel⟩)
end Go.Proofs.YtbkbhlbfkfnljaaDoor
