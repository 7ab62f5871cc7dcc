/- The program's reader of tokens: an expression, by its first word. -/
import Derived.Test.YtplcmcealeeppaaGreatDoorM08
set_option linter.unusedVariables false
set_option linter.unusedSimpArgs false
set_option linter.unusedVariables false
set_option linter.unusedSimpArgs false
namespace Go.Proofs.YtplcmcealeeppaaGreatDoor
open Go Go.RowKit L8 L10

/-- What readDyadic answers. -/
def dyF (T : Nat → Res) (l : List Tk) (i : Nat) : Res := match T i with
  | .error e => .error e
  | .ok (a, q) => pairF T l a q
theorem rdyad_any {w : World} {b m c p o : Nat} {A : Option Addr} {l : List Tk} {T : Nat → Res} (h : Rdr w b A m c l p o) (hp : p ≤ m) (HT : RdOk b A m c l 70 T o) : Calls Tryz.prog 72 #[.pointer (some ⟨b, 0, none⟩)] w fun en w' => RdX w w' b A m c o (dyF T l p) en := by
  unfold dyF
  cases hr : T p with
  | error er => exact rdyad_err h hp HT hr
  | ok v =>
    obtain ⟨y, q⟩ := v
    show Calls _ _ _ _ fun en w' => RdX w w' b A m c o (pairF T l y q) en
    unfold pairF
    by_cases hf : findO (atB l q) 1 22 = 0
    · rw [if_pos hf]; exact rdyad_one h hp HT hr hf
    · rw [if_neg hf]; exact rdyad_two h hp HT hr hf
set_option maxRecDepth 100000 in
set_option maxHeartbeats 1000000 in
/-- SIZE and a name, or none. -/
theorem rexpr_size {w : World} {b m c p o : Nat} {A : Option Addr} {l : List Tk} (h : Rdr w b A m c l p o) (hp : p ≤ m) (hz : (atB l p).tx = wSize) : Calls Tryz.prog 43 #[.pointer (some ⟨b, 0, none⟩)] w fun en w' => RdX w w' b A m c o (if (atB l (p + 1)).k = 1 then .ok (.mk 9 0 0 0 (atB l (p + 1)).tx [], p + 2) else .error 100) en := by
  have hb := h.box.lt
  have hR := (Rs.new h).below (bal (b0 w) (.cells zC 27))
  have hq1 : p + 1 ≤ m := by
    have := at_lt (l := l) (i := p) (fun e => by rw [e] at hz; exact absurd hz (by decide))
    have := h.len
    omega
  have hq2 : (atB l (p + 1)).k = 1 → p + 2 ≤ m := fun h1 => by
    have := at_lt (l := l) (i := p + 1) (fun e => by rw [e] at h1; exact absurd h1 (by decide))
    have := h.len
    omega
  have C1 : Hid (Calls Tryz.prog 67 #[.pointer (some ⟨b, 0, none⟩), .string ⟨#[83, 73, 90, 69]⟩] (w.alloc (.cells zC 27)) fun en w' => en = .returned (.bool true) ∧ (Rs w w' b A m c (p + 1) o ∧ BoxS w' w.heap.size 27 zC)) := Lib.hid (by
    have := rtakes_any (hR.rdr h) hp wSize (T := ⟨#[83, 73, 90, 69]⟩) rfl
    rw [decide_eq_true hz, if_pos hz] at this
    exact this.mono fun en w' ⟨e, k⟩ => ⟨e, hR.step k, k.kept (boxS_new w _ zC) (by omega)⟩)
  have C2 := Lib.hid (fun (W : World) (k : Rs w W b A m c (p + 1) o) => rname_any (k.rdr h) hq1)
  have hn := (at_ok h.rr.ok (p + 1)).1
  have HK := Lib.hid (fun (W X : World) (hx : BoxS W w.heap.size 27 zC) (k0 : Rs w W b A m c (p + 1) o) (k : Rs W X b A m c (p + 1 + 1) o) => And.intro (k.kept hx (show b ≠ w.heap.size by omega)) (k0.step k))
  clear h hp hz hR hq1
  generalize atB l (p + 1) = x at *
  by_cases h1 : x.k = 1
  · simp only [if_pos h1] at *
    have HL : Hid (∀ W : World, Rs w W b A m c (p + 2) o → BoxS W w.heap.size 27 zC → BoxS (set6 W w.heap.size (.int .u8 9) (.int .u8 0) (.int .u8 0) (.int .i32 0) (.string (strOf x.tx)) (.slice none 0 0)) w.heap.size 27 #[.int .u8 9, .int .u8 0, .int .u8 0, .int .i32 0, .string (strOf x.tx), .slice none 0 0] ∧ RdX w (set6 W w.heap.size (.int .u8 9) (.int .u8 0) (.int .u8 0) (.int .i32 0) (.string (strOf x.tx)) (.slice none 0 0)) b A m c o (.ok (.mk 9 0 0 0 x.tx [], p + 2)) (.returned (.agg #[.int .u8 9, .int .u8 0, .int .u8 0, .int .i32 0, .string (strOf x.tx), .slice none 0 0]))) :=
      Lib.hid (fun W k hx => finL (.mk 9 0 0 0 x.tx []) rfl ⟨by show 9 < 256; decide, by show 0 < 256; decide, by show 0 < 256; decide, by show (-2147483648 : Int) ≤ 0; decide, by show (0 : Int) ≤ 2147483647; decide, hn⟩ k hb hx (hq2 h1))
    clear h1 hn hq2 hb
    generalize strOf x.tx = S at *
    unfold zC set6 at *
    go_enter Tryz.func43, Tryz.ntmps43
    go_wp2_with (first
      | (go_at_call 67; (with_reducible refine (C1.out).mono ?_); rintro e1 W1 ⟨rfl, k⟩; have H1 := Lib.hid k; clear k)
      | (go_at_call 68; (with_reducible refine (C2.out _ H1.out.1).mono ?_); rintro e2 W3 ⟨rfl, k⟩; have H2 := Lib.hid (HK.out _ W3 H1.out.2 H1.out.1 k); clear k; obtain ⟨x0, x1, x2, x3, x4, x5⟩ := box6 H2.out.1; obtain ⟨f0, f1, f2, f3, f4, f5⟩ := box6f H2.out.1))
    clear x0 x1 x2 x3 x4 x5 f0 f1 f2 f3 f4 f5
    have H3 := Lib.hid (HL.out _ H2.out.2 H2.out.1)
    generalize (((((W3.setCell ⟨w.heap.size, 0, none⟩ (.int .u8 9)).setCell ⟨w.heap.size, 1, none⟩ (.int .u8 0)).setCell ⟨w.heap.size, 2, none⟩ (.int .u8 0)).setCell ⟨w.heap.size, 3, none⟩ (.int .i32 0)).setCell ⟨w.heap.size, 4, none⟩ (.string S)).setCell ⟨w.heap.size, 5, none⟩ (.slice none 0 0) = X5 at *
    obtain ⟨y0, y1, y2, y3, y4, y5⟩ := box6 H3.out.1
    refine bodyPost_ret (v := .agg #[.int .u8 9, .int .u8 0, .int .u8 0, .int .i32 0, .string S, .slice none 0 0]) (by simp [results, Tryz.results43, go_sem, y0, y1, y2, y3, y4, y5]) rfl H3.out.2
  · simp only [if_neg h1] at *
    clear h1 hn hq2 hb
    unfold RdX FailE at *
    unfold zC at *
    dsimp only at *
    go_enter Tryz.func43, Tryz.ntmps43
    go_wp2_with (first
      | (go_at_call 67; (with_reducible refine (C1.out).mono ?_); rintro e1 W1 ⟨rfl, k⟩; have H1 := Lib.hid k; clear k)
      | (go_at_call 68; (with_reducible refine (C2.out _ H1.out.1).mono ?_); rintro e2 W3 ⟨rfl, k⟩; have H2 := Lib.hid (g_trans H1.out.1.grw k.grw); clear k))
    exact ⟨rfl, rfl, H2.out⟩
end Go.Proofs.YtplcmcealeeppaaGreatDoor
/- The program's reader of tokens: a type and an operand. -/
set_option linter.unusedVariables false
set_option linter.unusedSimpArgs false
namespace Go.Proofs.YtplcmcealeeppaaGreatDoor
open Go Go.RowKit L8 L10

set_option maxRecDepth 100000 in
set_option maxHeartbeats 2000000 in
theorem rexpr_conv {w : World} {b m c p o : Nat} {A : Option Addr} {l : List Tk} {T : Nat → Res} (h : Rdr w b A m c l p o) (hp : p ≤ m) (HT : RdOk b A m c l 70 T o) (hz : (atB l p).tx ≠ wSize) (hf : typeOf (atB l p) ≠ 0) : Calls Tryz.prog 43 #[.pointer (some ⟨b, 0, none⟩)] w fun en w' => RdX w w' b A m c o (wrapF (T (p + 1)) fun y => .mk 8 0 (typeOf (atB l p)) 0 [] [y]) en := by
  have hb := h.box.lt
  have hR := (Rs.new h).below (bal (b0 w) (.cells zC 27))
  have hq1 : p + 1 ≤ m := by
    have := at_lt (l := l) (i := p) (fun e => hf (by rw [e]; decide))
    have := h.len
    omega
  have C1 : Hid (Calls Tryz.prog 67 #[.pointer (some ⟨b, 0, none⟩), .string ⟨#[83, 73, 90, 69]⟩] (w.alloc (.cells zC 27)) fun en w' => en = .returned (.bool false) ∧ (Rs w w' b A m c p o ∧ BoxS w' w.heap.size 27 zC)) := Lib.hid (by
    have := rtakes_any (hR.rdr h) hp wSize (T := ⟨#[83, 73, 90, 69]⟩) rfl
    rw [decide_eq_false hz, if_neg hz] at this
    exact this.mono fun en w' ⟨e, k⟩ => ⟨e, hR.step k, k.kept (boxS_new w _ zC) (by omega)⟩)
  have C2 : Hid (∀ W : World, Rs w W b A m c p o → BoxS W w.heap.size 27 zC → Calls Tryz.prog 69 #[.pointer (some ⟨b, 0, none⟩)] W fun en w' => en = .returned (.int .u8 ((typeOf (atB l p) : Nat) : Int)) ∧ (Rs w w' b A m c (p + 1) o ∧ BoxS w' w.heap.size 27 zC)) := Lib.hid fun W k hx => by
    have := rtype_any (k.rdr h) hp
    rw [if_neg hf] at this
    exact this.mono fun en w' ⟨e, g⟩ => ⟨e, k.step g, g.kept hx (by omega)⟩
  have C4 := Lib.hid (fun (W : World) (k : Rs w W b A m c (p + 1) o) => HT W (p + 1) (k.rdr h) hq1)
  have HB := Lib.hid hb
  have HFs : Hid (typeOf (atB l p) < 256) := Lib.hid (by unfold typeOf; split <;> (try decide); split <;> (try decide); split <;> decide)
  have hf0 : (((typeOf (atB l p) : Nat) : Int) == 0) = false := by
    have : ¬ ((typeOf (atB l p) : Nat) : Int) = 0 := by omega
    simp only [beq_eq_false_iff_ne]
    exact this
  clear h hp HT hR hf hb hq1 hz
  generalize T (p + 1) = r at *
  generalize typeOf (atB l p) = F at *
  unfold zC at *
  cases r with
  | error er =>
    unfold wrapF RdX FailE at *
    dsimp only at *
    go_enter Tryz.func43, Tryz.ntmps43
    go_wp2_with (first
      | (go_at_call 67; (with_reducible refine (C1.out).mono ?_); rintro e1 W1 ⟨rfl, k⟩; have H1 := Lib.hid k; clear k)
      | (go_at_call 69; (with_reducible refine (C2.out _ H1.out.1 H1.out.2).mono ?_); rintro e2 W2 ⟨rfl, k⟩; have H2 := Lib.hid k; clear k)
      | (go_at_call 70; (with_reducible refine (C4.out _ H2.out.1).mono ?_); rintro e4 W4 ⟨rfl, k⟩; have H4 := Lib.hid (g_trans H2.out.1.grw k); clear k))
    exact ⟨rfl, rfl, H4.out⟩
  | ok v =>
    obtain ⟨y, q⟩ := v
    go_enter Tryz.func43, Tryz.ntmps43
    go_wp2_with (first
      | (go_at_call 67; (with_reducible refine (C1.out).mono ?_); rintro e1 W1 ⟨rfl, k⟩; have H1 := Lib.hid k; clear k)
      | (go_at_call 69; (with_reducible refine (C2.out _ H1.out.1 H1.out.2).mono ?_); rintro e2 W2 ⟨rfl, k⟩; have H2 := Lib.hid k; clear k)
      | (go_at_call 70; (with_reducible refine (C4.out _ H2.out.1).mono ?_); rintro e4 W4 ⟨B, d, k1, t, ok, k, hq⟩; unfold exV at k1; subst k1; have H4 := Lib.hid (And.intro k (And.intro t (And.intro ok hq))); have H6 := Lib.hid ((k.kept H2.out.2 (by have := HB.out; omega)).below (bal (b0 W4) (.cells #[.int .u8 (y.k : Int), .int .u8 (y.o : Int), .int .u8 (y.t : Int), .int .i32 y.n, .string (strOf y.s), .slice B y.l.length d] 27))); obtain ⟨x0, x1, x2, x3, x4, x5⟩ := box6 H6.out; obtain ⟨f0, f1, f2, f3, f4, f5⟩ := box6f H6.out; clear k t ok hq))
    clear x0 x1 x2 x3 x4 x5 f0 f1 f2 f3 f4 f5
    have hb := HB.out
    have h3w : w.heap.size + 1 ≤ W2.heap.size := H2.out.2.lt
    have hs4 : w.heap.size + 1 ≤ W4.heap.size := by have := H4.out.1.grw.size; omega
    have bA := bal (b0 W4) (.cells #[.int .u8 (y.k : Int), .int .u8 (y.o : Int), .int .u8 (y.t : Int), .int .i32 y.n, .string (strOf y.s), .slice B y.l.length d] 27)
    have hk6 := (H2.out.1.step H4.out.1).below bA
    have ht6 := TrN.one (N := fun k => w.heap.size + 1 ≤ k) (boxS_new W4 27 (exC y B y.l.length d)) H4.out.2.2.1 hs4 ((H4.out.2.1.keep bA).mono (fun j _ hj => Nat.le_trans h3w hj))
    have H3 := Lib.hid (fin6 (y := .mk 8 0 F 0 [] [y]) (n := 1) hk6 hb H6.out ht6)
    have H7 : Hid (BoxS (set6 (W4.alloc (.cells #[.int .u8 (y.k : Int), .int .u8 (y.o : Int), .int .u8 (y.t : Int), .int .i32 y.n, .string (strOf y.s), .slice B y.l.length d] 27)) w.heap.size (.int .u8 8) (.int .u8 0) (.int .u8 (F : Int)) (.int .i32 0) (.string ⟨#[]⟩) (.slice (some ⟨W4.heap.size, 0, none⟩) 1 1)) w.heap.size 27 #[.int .u8 8, .int .u8 0, .int .u8 (F : Int), .int .i32 0, .string ⟨#[]⟩, .slice (some ⟨W4.heap.size, 0, none⟩) 1 1] ∧ RdX w (set6 (W4.alloc (.cells #[.int .u8 (y.k : Int), .int .u8 (y.o : Int), .int .u8 (y.t : Int), .int .i32 y.n, .string (strOf y.s), .slice B y.l.length d] 27)) w.heap.size (.int .u8 8) (.int .u8 0) (.int .u8 (F : Int)) (.int .i32 0) (.string ⟨#[]⟩) (.slice (some ⟨W4.heap.size, 0, none⟩) 1 1)) b A m c o (.ok (.mk 8 0 F 0 [] [y], q)) (.returned (.agg #[.int .u8 8, .int .u8 0, .int .u8 (F : Int), .int .i32 0, .string ⟨#[]⟩, .slice (some ⟨W4.heap.size, 0, none⟩) 1 1]))) := Lib.hid
      ⟨H3.out.1, some ⟨W4.heap.size, 0, none⟩, 1, rfl, H3.out.2.2, ⟨by show 8 < 256; decide, by show 0 < 256; first | exact HFs.out | decide, by show F < 256; first | exact HFs.out | decide, by show (-2147483648 : Int) ≤ 0; decide, by show (0 : Int) ≤ 2147483647; decide, by simp [Ex.s, maxLen]⟩, H3.out.2.1, H4.out.2.2.2⟩
    clear H3 hk6 ht6 bA
    unfold set6 at H7
    generalize (((((((W4.alloc (.cells #[.int .u8 (y.k : Int), .int .u8 (y.o : Int), .int .u8 (y.t : Int), .int .i32 y.n, .string (strOf y.s), .slice B y.l.length d] 27)).setCell ⟨w.heap.size, 0, none⟩ (.int .u8 8)).setCell ⟨w.heap.size, 1, none⟩ (.int .u8 0)).setCell ⟨w.heap.size, 2, none⟩ (.int .u8 (F : Int))).setCell ⟨w.heap.size, 3, none⟩ (.int .i32 0)).setCell ⟨w.heap.size, 4, none⟩ (.string ⟨#[]⟩)).setCell ⟨w.heap.size, 5, none⟩ (.slice (some ⟨W4.heap.size, 0, none⟩) 1 1)) = X5 at *
    obtain ⟨y0, y1, y2, y3, y4, y5⟩ := box6 H7.out.1
    refine bodyPost_ret (v := .agg #[.int .u8 8, .int .u8 0, .int .u8 (F : Int), .int .i32 0, .string ⟨#[]⟩, .slice (some ⟨W4.heap.size, 0, none⟩) 1 1]) (by simp [results, Tryz.results43, go_sem, y0, y1, y2, y3, y4, y5]) rfl H7.out.2
end Go.Proofs.YtplcmcealeeppaaGreatDoor
/- The program's reader of tokens: a monadic operator and an operand. -/
set_option linter.unusedVariables false
set_option linter.unusedSimpArgs false
namespace Go.Proofs.YtplcmcealeeppaaGreatDoor
open Go Go.RowKit L8 L10

set_option maxRecDepth 100000 in
set_option maxHeartbeats 2000000 in
theorem rexpr_mon {w : World} {b m c p o : Nat} {A : Option Addr} {l : List Tk} {T : Nat → Res} (h : Rdr w b A m c l p o) (hp : p ≤ m) (HT : RdOk b A m c l 70 T o) (hz : (atB l p).tx ≠ wSize) (ht : typeOf (atB l p) = 0) (hf : findO (atB l p) 23 4 ≠ 0) : Calls Tryz.prog 43 #[.pointer (some ⟨b, 0, none⟩)] w fun en w' => RdX w w' b A m c o (wrapF (T (p + 1)) fun y => .mk 6 (findO (atB l p) 23 4) 0 0 [] [y]) en := by
  have hb := h.box.lt
  have hR := (Rs.new h).below (bal (b0 w) (.cells zC 27))
  have hq1 : p + 1 ≤ m := by
    have := at_lt (l := l) (i := p) (fun e => hf (by rw [e]; decide))
    have := h.len
    omega
  have C1 : Hid (Calls Tryz.prog 67 #[.pointer (some ⟨b, 0, none⟩), .string ⟨#[83, 73, 90, 69]⟩] (w.alloc (.cells zC 27)) fun en w' => en = .returned (.bool false) ∧ (Rs w w' b A m c p o ∧ BoxS w' w.heap.size 27 zC)) := Lib.hid (by
    have := rtakes_any (hR.rdr h) hp wSize (T := ⟨#[83, 73, 90, 69]⟩) rfl
    rw [decide_eq_false hz, if_neg hz] at this
    exact this.mono fun en w' ⟨e, k⟩ => ⟨e, hR.step k, k.kept (boxS_new w _ zC) (by omega)⟩)
  have C2 : Hid (∀ W : World, Rs w W b A m c p o → BoxS W w.heap.size 27 zC → Calls Tryz.prog 69 #[.pointer (some ⟨b, 0, none⟩)] W fun en w' => en = .returned (.int .u8 0) ∧ (Rs w w' b A m c p o ∧ BoxS w' w.heap.size 27 zC)) := Lib.hid fun W k hx => by
    have := rtype_any (k.rdr h) hp
    rw [ht, if_pos rfl] at this
    exact this.mono fun en w' ⟨e, g⟩ => ⟨e, k.step g, g.kept hx (by omega)⟩
  have C3 : Hid (∀ W : World, Rs w W b A m c p o → BoxS W w.heap.size 27 zC → Calls Tryz.prog 71 #[.pointer (some ⟨b, 0, none⟩), .int .u8 23, .int .u8 26] W fun en w' => en = .returned (.int .u8 ((findO (atB l p) 23 4 : Nat) : Int)) ∧ (Rs w w' b A m c (p + 1) o ∧ BoxS w' w.heap.size 27 zC)) := Lib.hid fun W k hx => by
    have := roper_any (a := 23) (z := 26) (n := 4) (k.rdr h) hp (by omega) (by omega) (by omega)
    rw [if_neg hf] at this
    exact this.mono fun en w' ⟨e, g⟩ => ⟨e, k.step g, g.kept hx (by omega)⟩
  have C4 := Lib.hid (fun (W : World) (k : Rs w W b A m c (p + 1) o) => HT W (p + 1) (k.rdr h) hq1)
  have HB := Lib.hid hb
  have HFs : Hid (findO (atB l p) 23 4 < 256) := Lib.hid (by have := find_some (t := atB l p) (a := 23) (n := 4) (by omega) rfl hf; omega)
  have hf0 : (((findO (atB l p) 23 4 : Nat) : Int) == 0) = false := by
    have : ¬ ((findO (atB l p) 23 4 : Nat) : Int) = 0 := by omega
    simp only [beq_eq_false_iff_ne]
    exact this
  clear h hp HT hR hf hb hq1 hz ht
  generalize T (p + 1) = r at *
  generalize findO (atB l p) 23 4 = F at *
  unfold zC at *
  cases r with
  | error er =>
    unfold wrapF RdX FailE at *
    dsimp only at *
    go_enter Tryz.func43, Tryz.ntmps43
    go_wp2_with (first
      | (go_at_call 67; (with_reducible refine (C1.out).mono ?_); rintro e1 W1 ⟨rfl, k⟩; have H1 := Lib.hid k; clear k)
      | (go_at_call 69; (with_reducible refine (C2.out _ H1.out.1 H1.out.2).mono ?_); rintro e2 W2 ⟨rfl, k⟩; have H2 := Lib.hid k; clear k)
      | (go_at_call 71; (with_reducible refine (C3.out _ H2.out.1 H2.out.2).mono ?_); rintro e3 W3 ⟨rfl, k⟩; have H3 := Lib.hid k; clear k)
      | (go_at_call 70; (with_reducible refine (C4.out _ H3.out.1).mono ?_); rintro e4 W4 ⟨rfl, k⟩; have H4 := Lib.hid (g_trans H3.out.1.grw k); clear k))
    exact ⟨rfl, rfl, H4.out⟩
  | ok v =>
    obtain ⟨y, q⟩ := v
    go_enter Tryz.func43, Tryz.ntmps43
    go_wp2_with (first
      | (go_at_call 67; (with_reducible refine (C1.out).mono ?_); rintro e1 W1 ⟨rfl, k⟩; have H1 := Lib.hid k; clear k)
      | (go_at_call 69; (with_reducible refine (C2.out _ H1.out.1 H1.out.2).mono ?_); rintro e2 W2 ⟨rfl, k⟩; have H2 := Lib.hid k; clear k)
      | (go_at_call 71; (with_reducible refine (C3.out _ H2.out.1 H2.out.2).mono ?_); rintro e3 W3 ⟨rfl, k⟩; have H3 := Lib.hid k; clear k)
      | (go_at_call 70; (with_reducible refine (C4.out _ H3.out.1).mono ?_); rintro e4 W4 ⟨B, d, k1, t, ok, k, hq⟩; unfold exV at k1; subst k1; have H4 := Lib.hid (And.intro k (And.intro t (And.intro ok hq))); have H6 := Lib.hid ((k.kept H3.out.2 (by have := HB.out; omega)).below (bal (b0 W4) (.cells #[.int .u8 (y.k : Int), .int .u8 (y.o : Int), .int .u8 (y.t : Int), .int .i32 y.n, .string (strOf y.s), .slice B y.l.length d] 27))); obtain ⟨x0, x1, x2, x3, x4, x5⟩ := box6 H6.out; obtain ⟨f0, f1, f2, f3, f4, f5⟩ := box6f H6.out; clear k t ok hq))
    clear x0 x1 x2 x3 x4 x5 f0 f1 f2 f3 f4 f5
    have hb := HB.out
    have h3w : w.heap.size + 1 ≤ W3.heap.size := H3.out.2.lt
    have hs4 : w.heap.size + 1 ≤ W4.heap.size := by have := H4.out.1.grw.size; omega
    have bA := bal (b0 W4) (.cells #[.int .u8 (y.k : Int), .int .u8 (y.o : Int), .int .u8 (y.t : Int), .int .i32 y.n, .string (strOf y.s), .slice B y.l.length d] 27)
    have hk6 := (H3.out.1.step H4.out.1).below bA
    have ht6 := TrN.one (N := fun k => w.heap.size + 1 ≤ k) (boxS_new W4 27 (exC y B y.l.length d)) H4.out.2.2.1 hs4 ((H4.out.2.1.keep bA).mono (fun j _ hj => Nat.le_trans h3w hj))
    have H8 := Lib.hid (fin6 (y := .mk 6 F 0 0 [] [y]) (n := 1) hk6 hb H6.out ht6)
    have H7 : Hid (BoxS (set6 (W4.alloc (.cells #[.int .u8 (y.k : Int), .int .u8 (y.o : Int), .int .u8 (y.t : Int), .int .i32 y.n, .string (strOf y.s), .slice B y.l.length d] 27)) w.heap.size (.int .u8 6) (.int .u8 (F : Int)) (.int .u8 0) (.int .i32 0) (.string ⟨#[]⟩) (.slice (some ⟨W4.heap.size, 0, none⟩) 1 1)) w.heap.size 27 #[.int .u8 6, .int .u8 (F : Int), .int .u8 0, .int .i32 0, .string ⟨#[]⟩, .slice (some ⟨W4.heap.size, 0, none⟩) 1 1] ∧ RdX w (set6 (W4.alloc (.cells #[.int .u8 (y.k : Int), .int .u8 (y.o : Int), .int .u8 (y.t : Int), .int .i32 y.n, .string (strOf y.s), .slice B y.l.length d] 27)) w.heap.size (.int .u8 6) (.int .u8 (F : Int)) (.int .u8 0) (.int .i32 0) (.string ⟨#[]⟩) (.slice (some ⟨W4.heap.size, 0, none⟩) 1 1)) b A m c o (.ok (.mk 6 F 0 0 [] [y], q)) (.returned (.agg #[.int .u8 6, .int .u8 (F : Int), .int .u8 0, .int .i32 0, .string ⟨#[]⟩, .slice (some ⟨W4.heap.size, 0, none⟩) 1 1]))) := Lib.hid
      ⟨H8.out.1, some ⟨W4.heap.size, 0, none⟩, 1, rfl, H8.out.2.2, ⟨by show 6 < 256; decide, by show F < 256; first | exact HFs.out | decide, by show 0 < 256; first | exact HFs.out | decide, by show (-2147483648 : Int) ≤ 0; decide, by show (0 : Int) ≤ 2147483647; decide, by simp [Ex.s, maxLen]⟩, H8.out.2.1, H4.out.2.2.2⟩
    clear H8 hk6 ht6 bA
    unfold set6 at H7
    generalize (((((((W4.alloc (.cells #[.int .u8 (y.k : Int), .int .u8 (y.o : Int), .int .u8 (y.t : Int), .int .i32 y.n, .string (strOf y.s), .slice B y.l.length d] 27)).setCell ⟨w.heap.size, 0, none⟩ (.int .u8 6)).setCell ⟨w.heap.size, 1, none⟩ (.int .u8 (F : Int))).setCell ⟨w.heap.size, 2, none⟩ (.int .u8 0)).setCell ⟨w.heap.size, 3, none⟩ (.int .i32 0)).setCell ⟨w.heap.size, 4, none⟩ (.string ⟨#[]⟩)).setCell ⟨w.heap.size, 5, none⟩ (.slice (some ⟨W4.heap.size, 0, none⟩) 1 1)) = X5 at *
    obtain ⟨y0, y1, y2, y3, y4, y5⟩ := box6 H7.out.1
    refine bodyPost_ret (v := .agg #[.int .u8 6, .int .u8 (F : Int), .int .u8 0, .int .i32 0, .string ⟨#[]⟩, .slice (some ⟨W4.heap.size, 0, none⟩) 1 1]) (by simp [results, Tryz.results43, go_sem, y0, y1, y2, y3, y4, y5]) rfl H7.out.2
end Go.Proofs.YtplcmcealeeppaaGreatDoor
/- The program's reader of tokens: an expression. -/
set_option linter.unusedVariables false
set_option linter.unusedSimpArgs false
namespace Go.Proofs.YtplcmcealeeppaaGreatDoor
open Go Go.RowKit L8 L10

set_option maxRecDepth 100000 in
set_option maxHeartbeats 2000000 in
theorem rexpr_dy {w : World} {b m c p o : Nat} {A : Option Addr} {l : List Tk} {T : Nat → Res} (h : Rdr w b A m c l p o) (hp : p ≤ m) (HT : RdOk b A m c l 70 T o) (hz : (atB l p).tx ≠ wSize) (ht : typeOf (atB l p) = 0) (hf : findO (atB l p) 23 4 = 0) : Calls Tryz.prog 43 #[.pointer (some ⟨b, 0, none⟩)] w fun en w' => RdX w w' b A m c o (dyF T l p) en := by
  have hb := h.box.lt
  have hR := (Rs.new h).below (bal (b0 w) (.cells zC 27))
  have C1 : Hid (Calls Tryz.prog 67 #[.pointer (some ⟨b, 0, none⟩), .string ⟨#[83, 73, 90, 69]⟩] (w.alloc (.cells zC 27)) fun en w' => en = .returned (.bool false) ∧ (Rs w w' b A m c p o ∧ BoxS w' w.heap.size 27 zC)) := Lib.hid (by
    have := rtakes_any (hR.rdr h) hp wSize (T := ⟨#[83, 73, 90, 69]⟩) rfl
    rw [decide_eq_false hz, if_neg hz] at this
    exact this.mono fun en w' ⟨e, k⟩ => ⟨e, hR.step k, k.kept (boxS_new w _ zC) (by omega)⟩)
  have C2 : Hid (∀ W : World, Rs w W b A m c p o → BoxS W w.heap.size 27 zC → Calls Tryz.prog 69 #[.pointer (some ⟨b, 0, none⟩)] W fun en w' => en = .returned (.int .u8 0) ∧ (Rs w w' b A m c p o ∧ BoxS w' w.heap.size 27 zC)) := Lib.hid fun W k hx => by
    have := rtype_any (k.rdr h) hp
    rw [ht, if_pos rfl] at this
    exact this.mono fun en w' ⟨e, g⟩ => ⟨e, k.step g, g.kept hx (by omega)⟩
  have C3 : Hid (∀ W : World, Rs w W b A m c p o → BoxS W w.heap.size 27 zC → Calls Tryz.prog 71 #[.pointer (some ⟨b, 0, none⟩), .int .u8 23, .int .u8 26] W fun en w' => en = .returned (.int .u8 0) ∧ (Rs w w' b A m c p o ∧ BoxS w' w.heap.size 27 zC)) := Lib.hid fun W k hx => by
    have := roper_any (a := 23) (z := 26) (n := 4) (k.rdr h) hp (by omega) (by omega) (by omega)
    rw [hf, if_pos rfl] at this
    exact this.mono fun en w' ⟨e, g⟩ => ⟨e, k.step g, g.kept hx (by omega)⟩
  have C4 := Lib.hid (fun (W : World) (k : Rs w W b A m c p o) => rdyad_any (k.rdr h) hp HT)
  have HB := Lib.hid hb
  clear h hp HT hR hf hz ht
  generalize dyF T l p = r at *
  cases r with
  | error er =>
    clear hb
    unfold zC at *
    unfold RdX FailE at *
    dsimp only at *
    go_enter Tryz.func43, Tryz.ntmps43
    go_wp2_with (first
      | (go_at_call 67; (with_reducible refine (C1.out).mono ?_); rintro e1 W1 ⟨rfl, k⟩; have H1 := Lib.hid k; clear k)
      | (go_at_call 69; (with_reducible refine (C2.out _ H1.out.1 H1.out.2).mono ?_); rintro e2 W2 ⟨rfl, k⟩; have H2 := Lib.hid k; clear k)
      | (go_at_call 71; (with_reducible refine (C3.out _ H2.out.1 H2.out.2).mono ?_); rintro e3 W3 ⟨rfl, k⟩; have H3 := Lib.hid k; clear k)
      | (go_at_call 72; (with_reducible refine (C4.out _ H3.out.1).mono ?_); rintro e4 W4 ⟨rfl, k⟩; have H4 := Lib.hid (g_trans H3.out.1.grw k); clear k))
    exact ⟨rfl, rfl, H4.out⟩
  | ok v =>
    obtain ⟨y, q⟩ := v
    have HF := Lib.hid (fun (W2 W : World) (d : Nat) (B : Option Addr) (k0 : Rs w W2 b A m c p o) (hx : BoxS W2 w.heap.size 27 zC) (k : Rs W2 W b A m c q o) (t : TrN W (fun k => W2.heap.size ≤ k) B d y.l) => And.intro (k.kept hx (show b ≠ w.heap.size by omega)) (fin6 (n := y.l.length) (k0.step k) hb (k.kept hx (show b ≠ w.heap.size by omega)) (t.mono (fun j _ hj => Nat.le_trans (show w.heap.size + 1 ≤ W2.heap.size from hx.lt) hj))))
    clear hb
    unfold zC set6 at *
    unfold RdX exV exC at *
    dsimp only at *
    generalize hS5 : strOf y.s = S5 at *
    have HS5 := Lib.hid hS5
    clear hS5
    go_enter Tryz.func43, Tryz.ntmps43
    go_wp2_with (first
      | (go_at_call 67; (with_reducible refine (C1.out).mono ?_); rintro e1 W1 ⟨rfl, k⟩; have H1 := Lib.hid k; clear k)
      | (go_at_call 69; (with_reducible refine (C2.out _ H1.out.1 H1.out.2).mono ?_); rintro e2 W2 ⟨rfl, k⟩; have H2 := Lib.hid k; clear k)
      | (go_at_call 71; (with_reducible refine (C3.out _ H2.out.1 H2.out.2).mono ?_); rintro e3 W3 ⟨rfl, k⟩; have H3 := Lib.hid k; clear k)
      | (go_at_call 72; (with_reducible refine (C4.out _ H3.out.1).mono ?_); rintro e4 W4 ⟨B, d, rfl, t, ok, k, hq⟩; have H4 := Lib.hid (HF.out _ W4 d B H3.out.1 H3.out.2 k t); have H5 := Lib.hid (And.intro ok hq); clear t ok k hq; obtain ⟨x0, x1, x2, x3, x4, x5⟩ := box6 H4.out.1; obtain ⟨f0, f1, f2, f3, f4, f5⟩ := box6f H4.out.1))
    clear x0 x1 x2 x3 x4 x5 f0 f1 f2 f3 f4 f5
    have H6 := Lib.hid H4.out.2
    generalize (((((W4.setCell ⟨w.heap.size, 0, none⟩ (.int .u8 (y.k : Int))).setCell ⟨w.heap.size, 1, none⟩ (.int .u8 (y.o : Int))).setCell ⟨w.heap.size, 2, none⟩ (.int .u8 (y.t : Int))).setCell ⟨w.heap.size, 3, none⟩ (.int .i32 y.n)).setCell ⟨w.heap.size, 4, none⟩ (.string S5)).setCell ⟨w.heap.size, 5, none⟩ (.slice B y.l.length d) = X5 at *
    obtain ⟨y0, y1, y2, y3, y4, y5⟩ := box6 H6.out.1
    refine bodyPost_ret (v := .agg #[.int .u8 (y.k : Int), .int .u8 (y.o : Int), .int .u8 (y.t : Int), .int .i32 y.n, .string S5, .slice B y.l.length d]) (by simp [results, Tryz.results43, go_sem, y0, y1, y2, y3, y4, y5]) rfl ⟨B, d, rfl, H6.out.2.2, H5.out.1, H6.out.2.1, H5.out.2⟩
theorem rexpr_any {w : World} {b m c p o : Nat} {A : Option Addr} {l : List Tk} {T : Nat → Res} (h : Rdr w b A m c l p o) (hp : p ≤ m) (HT : RdOk b A m c l 70 T o) : Calls Tryz.prog 43 #[.pointer (some ⟨b, 0, none⟩)] w fun en w' => RdX w w' b A m c o (readsF T l p) en := by
  have hw := (tx_words (at_z l p)).1
  unfold readsF
  by_cases hz : (atB l p).tx = wSize
  · rw [if_pos (hw.1 hz)]; exact rexpr_size h hp hz
  rw [if_neg (fun e => hz (hw.2 e))]
  by_cases ht : typeOf (atB l p) = 0
  · rw [if_neg (fun e => e ht)]
    by_cases hf : findO (atB l p) 23 4 = 0
    · rw [if_neg (fun e => e hf)]; exact rexpr_dy h hp HT hz ht hf
    · rw [if_pos hf]; exact rexpr_mon h hp HT hz ht hf
  · rw [if_pos ht]; exact rexpr_conv h hp HT hz ht
/-- readExpr reads, d brackets still to be opened. -/
theorem rexpr_ok {b m c : Nat} {A : Option Addr} {l : List Tk} : ∀ (d o : Nat), d + o = 32 → RdOk b A m c l 43 (rdN l d) o
  | 0, o, hd => fun W p h hp => rexpr_any h hp (roperand_ok hd fun e he => absurd he (by omega))
  | d + 1, o, hd => fun W p h hp => rexpr_any h hp (roperand_ok hd fun e he => by
      obtain rfl : d = e := by omega
      exact rexpr_ok d (o + 1) (by omega))
end Go.Proofs.YtplcmcealeeppaaGreatDoor
