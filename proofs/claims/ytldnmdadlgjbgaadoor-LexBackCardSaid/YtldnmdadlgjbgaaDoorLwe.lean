/- LexBytes: its walk. -/
import Derived.Test.YtldnmdadlgjbgaaDoorLwc
set_option linter.unusedVariables false
set_option linter.unusedSimpArgs false
namespace Go.Proofs.YtldnmdadlgjbgaaDoor
open Go Go.RowKit L8

def St0 (w X : World) : Prop := Below w.heap.size w X ∧ W1.Tab X
theorem St0.step {w X Y : World} (h : St0 w X) (b : Below X.heap.size X Y) : St0 w Y := ⟨blw h.1 b, h.2.below b⟩
theorem St0.tab {w X : World} (h : St0 w X) : W1.Tab X := h.2
theorem one_row {w : World} {x : Tk} (hx : OKx x) : RR (w.alloc (.cells #[.int .u8 (x.k : Int), .int .i64 x.a, .string (strOf x.tx), .int .i32 x.n] 26)) (some ⟨w.heap.size, 0, none⟩) 1 [x] := rr_one hx (boxS_new w _ _)
/-- A line of one token is read. -/
theorem reads_one {s : Bs} (hl : s.length ≤ maxLen) {k : Nat} {n : Int} (hx : OKx ⟨k, 0, [], n⟩) (h : tokens s = ([⟨k, 0, [], n⟩], 0, 0)) (W : World) (ht : W1.Tab W) : Calls Tryd.prog 16 #[.string (strOf s), .slice (some ⟨W.heap.size, 0, none⟩) 1 1] (W.alloc (.cells #[.int .u8 (k : Int), .int .i64 0, .string ⟨#[]⟩, .int .i32 n] 26)) (fun e w' => e = .returned (.bool true) ∧ Below W.heap.size W w') := by
  have := reads_any hl h (one_row (w := W) hx) rfl (ht.below (bal (b0 W) _))
  rw [decide_eq_true rfl] at this
  exact this.mono fun e w' g => ⟨g.1, blw (bal (b0 W) _) g.2⟩
theorem fails_at {s : Bs} (hl : s.length ≤ maxLen) {k : Int} (h : tokens s = ([], k, 80)) (W : World) (ht : W1.Tab W) : Calls Tryd.prog 18 #[.string (strOf s), .int .i64 k] W (fun e w' => e = .returned (.bool true) ∧ Below W.heap.size W w') := by
  have := fails_any hl h k W ht
  rw [show ((k == k) = true) by simp] at this
  exact this
set_option maxRecDepth 100000 in
set_option maxHeartbeats 16000000 in
theorem walkLexBytes (a0 : Int) (w0 : (Lit.int .u8 a0).wf = true) (w : World) (ht : W1.Tab w) :
    Calls Tryd.prog 8 #[.int .u8 a0] w fun e w' => e = .returned (.bool true) ∧ Below w.heap.size w w' := by
  have hv : 0 ≤ a0 ∧ a0 < 256 := by
    simp only [Lit.wf, IntKind.min, IntKind.max, IntKind.signed, IntKind.bits, Bool.and_eq_true, decide_eq_true_eq] at w0
    simp at w0
    omega
  obtain ⟨v, rfl⟩ : ∃ v : Nat, a0 = (v : Int) := ⟨a0.toNat, by omega⟩
  have hv2 : v < 256 := by omega
  clear w0
  obtain ⟨v0, v1⟩ := hv
  have HB : Hid (St0 w w) := Lib.hid ⟨b0 w, ht⟩
  have hok : OKx ⟨4, 0, [], (v : Int)⟩ := ⟨by unfold maxLen; simp, by show (4 : Nat) < 256; decide, by show -2147483648 ≤ (v : Int); omega, by show (v : Int) ≤ 2147483647; omega⟩
  have hsl := shown_len (v : Int)
  have htx : text [⟨4, 0, [], (v : Int)⟩] = (39 :: (shown (v : Int) ++ [39]), 0) := by
    have hm : may ⟨4, 0, [], (v : Int)⟩ = true := by rw [may_4 (by decide) (by decide)]; simp; omega
    have := text_ok (l := [⟨4, 0, [], (v : Int)⟩]) (by rw [List.all_cons, hm]; rfl) (by rw [text_byte]; simp; omega)
    rw [text_byte] at this
    exact this
  have CA := Lib.hid (fun (W : World) (h : W1.Tab W) => awake_any W h)
  have CC := Lib.hid (fun (W : World) => char_any (v : Int) W)
  have CT : Hid (∀ (W : World), W1.Tab W → Calls Tryd.prog 11 #[.slice (some ⟨W.heap.size, 0, none⟩) 1 1] (W.alloc (.cells #[.int .u8 4, .int .i64 0, .string ⟨#[]⟩, .int .i32 (v : Int)] 26)) (fun e w' => e = .returned (.tuple #[.string (strOf (39 :: (shown (v : Int) ++ [39]))), .int .i64 0]) ∧ Below W.heap.size W w')) := Lib.hid fun W h => (Text_at (one_row (w := W) hok) rfl (h.below (bal (b0 W) _)) htx).mono fun e w' g => ⟨g.1, blw (bal (b0 W) _) g.2⟩
  have CW := Lib.hid (fun (W : World) (h : W1.Tab W) => wText (v : Int) true (by omega) (by omega) W h)
  have R1 : Hid (∀ (W : World), W1.Tab W → Calls Tryd.prog 16 #[.string (strOf (39 :: (shown (v : Int) ++ [39]))), .slice (some ⟨W.heap.size, 0, none⟩) 1 1] (W.alloc (.cells #[.int .u8 4, .int .i64 0, .string ⟨#[]⟩, .int .i32 (v : Int)] 26)) (fun e w' => e = .returned (.bool true) ∧ Below W.heap.size W w')) := Lib.hid fun W h => reads_one (by unfold maxLen; simp; omega) hok (byte_closed v hv2) W h
  have R2 : Hid (∀ (W : World), W1.Tab W → Calls Tryd.prog 16 #[.string (strOf (esc v ++ [39])), .slice (some ⟨W.heap.size, 0, none⟩) 1 1] (W.alloc (.cells #[.int .u8 4, .int .i64 0, .string ⟨#[]⟩, .int .i32 (v : Int)] 26)) (fun e w' => e = .returned (.bool true) ∧ Below W.heap.size W w')) := Lib.hid fun W h => reads_one (by unfold maxLen esc; simp) hok (esc_closed v hv2) W h
  have F1 := Lib.hid (fun (W : World) (h : W1.Tab W) => fails_at (s := esc v) (by unfold maxLen esc; simp) (esc_open v hv2) W h)
  have F2 := Lib.hid (fun (W : World) (h : W1.Tab W) => fails_at (s := 39 :: shown (v : Int)) (by unfold maxLen; simp; omega) (byte_open v hv2) W h)
  obtain ⟨x1, x2⟩ := hex_two v hv2
  have hsz := size_strOf (textL (v : Int) true)
  rw [x1] at hsz
  have hcut : ∀ W : World, (Instr.slice 9 (.string (strOf (textL (v : Int) true))) (some (.int .i64 7)) none none).run Tryd.prog W = .ok (.string (strOf ((textL (v : Int) true).drop 7))) W := cut_from (textL (v : Int) true) 7 (by omega)
  rw [x2] at hcut
  have c1 : Op.stringOp .add ⟨#[39, 42, 35]⟩ (strOf [hexDg (v / 16), hexDg (v % 16)]) = pure (.string (strOf (esc v))) := cat_str [39, 42, 35] [hexDg (v / 16), hexDg (v % 16)] (by simp)
  have c2 : Op.stringOp .add (strOf (esc v)) ⟨#[39]⟩ = pure (.string (strOf (esc v ++ [39]))) := cat_str (esc v) [39] (by unfold esc; simp)
  obtain ⟨m, hm⟩ : ∃ m, (shown (v : Int)).length = m := ⟨_, rfl⟩
  rw [hm] at hsl
  have hsz2 : (strOf (39 :: (shown (v : Int) ++ [39]))).size = m + 2 := by rw [size_strOf]; simp; omega
  have m1 : (1 : Int) ≤ (m : Int) := by omega
  have m2 : (m : Int) ≤ 4 := by omega
  have hex2 : (strOf (39 :: (shown (v : Int) ++ [39]))).extract 0 (m + 1) = strOf (39 :: shown (v : Int)) := by
    rw [extract_to, List.take_succ_cons, List.take_left' hm]
  clear ht hok hsl htx x1 x2 hv2 hm
  generalize strOf (39 :: (shown (v : Int) ++ [39])) = S1 at *
  generalize strOf (39 :: shown (v : Int)) = S2 at *
  generalize strOf (esc v ++ [39]) = S3 at *
  generalize strOf (esc v) = S4 at *
  generalize strOf [hexDg (v / 16), hexDg (v % 16)] = S5 at *
  generalize strOf (textL (v : Int) true) = S6 at *
  go_enter Tryd.func8, Tryd.ntmps8
  go_wp2_with (first
    | (go_at_call 20; (with_reducible refine (CC.out _).mono ?_); rintro e u1 ⟨rfl, b⟩; replace HB := Lib.hid (HB.out.step b); clear b)
    | (go_at_call 11; (with_reducible refine (CT.out _ HB.out.tab).mono ?_); rintro e u2 ⟨rfl, b⟩; replace HB := Lib.hid (HB.out.step b); clear b)
    | (go_at_call 15; (with_reducible refine (CW.out _ HB.out.tab).mono ?_); rintro e u3 ⟨rfl, b⟩; replace HB := Lib.hid (HB.out.step b); clear b)
    | (go_at_call 16; (with_reducible refine (R1.out _ HB.out.tab).mono ?_); clear R1; rintro e u4 ⟨rfl, b⟩; replace HB := Lib.hid (HB.out.step b); clear b)
    | (go_at_call 16; (with_reducible refine (R2.out _ HB.out.tab).mono ?_); rintro e u5 ⟨rfl, b⟩; replace HB := Lib.hid (HB.out.step b); clear b)
    | (go_at_call 18; (with_reducible refine (F1.out _ HB.out.tab).mono ?_); clear F1; rintro e u6 ⟨rfl, b⟩; replace HB := Lib.hid (HB.out.step b); clear b)
    | (go_at_call 18; (with_reducible refine (F2.out _ HB.out.tab).mono ?_); rintro e u7 ⟨rfl, b⟩; replace HB := Lib.hid (HB.out.step b); clear b)
    | (go_at_call 9; (with_reducible refine (CA.out _ HB.out.tab).mono ?_); rintro e u8 ⟨rfl, b⟩; replace HB := Lib.hid (HB.out.step b); clear b))
  go_ret
  exact ⟨rfl, HB.out.1⟩
end Go.Proofs.YtldnmdadlgjbgaaDoor
