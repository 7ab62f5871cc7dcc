/- The laws' helpers and examples. -/
import Derived.Test.YtldnmdadlgjbgaaDoorPlg
import Derived.Test.YtldnmdadlgjbgaaDoorPlj
import Derived.Test.YtldnmdadlgjbgaaDoorLxf
set_option linter.unusedVariables false
set_option linter.unusedSimpArgs false
namespace Go.Proofs.YtldnmdadlgjbgaaDoor
open Go Go.RowKit L8

/-! ### Tokens that are made -/
set_option maxRecDepth 100000 in
theorem number_any (v : Int) (w : World) : Calls Tryd.prog 17 #[(.int .i32 v)] w fun e w' => e = .returned (.agg #[.int .u8 3, .int .i64 0, .string ⟨#[]⟩, .int .i32 v]) ∧ Below w.heap.size w w' := by
  have HX := Lib.hid (boxS_new w 26 #[.int .u8 0, .int .i64 0, .string ⟨#[]⟩, .int .i32 0])
  have HB := Lib.hid (bal (b0 w) (.cells #[.int .u8 0, .int .i64 0, .string ⟨#[]⟩, .int .i32 0] 26))
  go_enter Tryd.func17, Tryd.ntmps17
  go_wp2
  first
  | (go_ret
     exact ⟨rfl, bal (b0 w) _⟩)
  | (refine bodyPost_ret (v := .agg #[.int .u8 3, .int .i64 0, .string ⟨#[]⟩, .int .i32 v]) (by simp [results, Tryd.results17, go_sem]) rfl ⟨rfl, bal (b0 w) _⟩)
set_option maxRecDepth 100000 in
theorem symbol_any (v : ByteArray) (w : World) : Calls Tryd.prog 21 #[(.string v)] w fun e w' => e = .returned (.agg #[.int .u8 5, .int .i64 0, .string v, .int .i32 0]) ∧ Below w.heap.size w w' := by
  have HX := Lib.hid (boxS_new w 26 #[.int .u8 0, .int .i64 0, .string ⟨#[]⟩, .int .i32 0])
  have HB := Lib.hid (bal (b0 w) (.cells #[.int .u8 0, .int .i64 0, .string ⟨#[]⟩, .int .i32 0] 26))
  go_enter Tryd.func21, Tryd.ntmps21
  go_wp2
  first
  | (go_ret
     exact ⟨rfl, bal (b0 w) _⟩)
  | (refine bodyPost_ret (v := .agg #[.int .u8 5, .int .i64 0, .string v, .int .i32 0]) (by simp [results, Tryd.results21, go_sem]) rfl ⟨rfl, bal (b0 w) _⟩)
set_option maxRecDepth 100000 in
theorem char_any (v : Int) (w : World) : Calls Tryd.prog 20 #[(.int .i32 v)] w fun e w' => e = .returned (.agg #[.int .u8 4, .int .i64 0, .string ⟨#[]⟩, .int .i32 v]) ∧ Below w.heap.size w w' := by
  have HX := Lib.hid (boxS_new w 26 #[.int .u8 0, .int .i64 0, .string ⟨#[]⟩, .int .i32 0])
  have HB := Lib.hid (bal (b0 w) (.cells #[.int .u8 0, .int .i64 0, .string ⟨#[]⟩, .int .i32 0] 26))
  go_enter Tryd.func20, Tryd.ntmps20
  go_wp2
  first
  | (go_ret
     exact ⟨rfl, bal (b0 w) _⟩)
  | (refine bodyPost_ret (v := .agg #[.int .u8 4, .int .i64 0, .string ⟨#[]⟩, .int .i32 v]) (by simp [results, Tryd.results20, go_sem]) rfl ⟨rfl, bal (b0 w) _⟩)
set_option maxRecDepth 100000 in
theorem named_any (v : ByteArray) (w : World) : Calls Tryd.prog 22 #[(.string v)] w fun e w' => e = .returned (.agg #[.int .u8 1, .int .i64 0, .string v, .int .i32 0]) ∧ Below w.heap.size w w' := by
  have HX := Lib.hid (boxS_new w 26 #[.int .u8 0, .int .i64 0, .string ⟨#[]⟩, .int .i32 0])
  have HB := Lib.hid (bal (b0 w) (.cells #[.int .u8 0, .int .i64 0, .string ⟨#[]⟩, .int .i32 0] 26))
  go_enter Tryd.func22, Tryd.ntmps22
  go_wp2
  first
  | (go_ret
     exact ⟨rfl, bal (b0 w) _⟩)
  | (refine bodyPost_ret (v := .agg #[.int .u8 1, .int .i64 0, .string v, .int .i32 0]) (by simp [results, Tryd.results22, go_sem]) rfl ⟨rfl, bal (b0 w) _⟩)
/-! ### Lines that are read, lines that fail -/
theorem tokens_okl (s : Bs) : ∀ t ∈ (tokens s).1, may t = true ∧ OKn t := by
  intro t ht
  unfold tokens at ht
  by_cases h : 256 < s.length
  · rw [if_pos h] at ht; cases ht
  · rw [if_neg h] at ht
    cases hq : toks s 0 with
    | error p => rw [hq] at ht; cases ht
    | ok l => rw [hq] at ht; exact toks_may _ s 0 l (Nat.le_refl _) (by omega) hq t ht
theorem okl_tokens (s : Bs) : OKL (tokens s).1 := fun t ht => may_okx (tokens_okl s t ht).1 (tokens_okl s t ht).2
/-- Tokens' answer as letters. -/
theorem Tokens_at {s : Bs} {l : List Tk} {n e : Int} (hl : s.length ≤ maxLen) (w : World) (ht : W1.Tab w) (h : tokens s = (l, n, e)) : Calls Tryd.prog 12 #[.string (strOf s)] w fun en w' => ∃ A c, en = .returned (.tuple #[.slice A l.length c, .int .i64 n, .int .i64 e]) ∧ OwnR w' 26 w.heap.size A l.length c l ∧ Below w.heap.size w w' := by
  have := Tokens_any s hl w ht
  unfold GivesT at this
  rw [h] at this
  exact this
theorem okl_at {s : Bs} {l : List Tk} {n e : Int} (h : tokens s = (l, n, e)) : OKL l := by
  have := okl_tokens s
  rw [h] at this
  exact this
set_option maxRecDepth 100000 in
set_option maxHeartbeats 4000000 in
theorem reads_any {s : Bs} (hl : s.length ≤ maxLen) {l : List Tk} {n er : Int} (h : tokens s = (l, n, er)) {A : Option Addr} {c m : Nat} {ys : List Tk} {w : World} (R : RR w A c ys) (hm : ys.length = m) (ht : W1.Tab w) : Calls Tryd.prog 16 #[.string (strOf s), .slice A m c] w fun e w' => e = .returned (.bool (decide (kern l = kern ys) && ((n == 0) && (er == 0)))) ∧ Below w.heap.size w w' := by
  have CT := Lib.hid (Tokens_at hl w ht h)
  have HO := Lib.hid (okl_at h)
  have HR := Lib.hid R
  have CS := Lib.hid (fun (W : World) (A2 : Option Addr) (c2 : Nat) (R2 : RR W A2 c2 l) (R3 : RR W A c ys) => RSame_any R2 R3 rfl hm)
  clear h R hm ht
  generalize decide (kern l = kern ys) = b1 at *
  generalize l.length = k at *
  obtain ⟨b2, hb2⟩ : ∃ b, (n == 0) = b := ⟨_, rfl⟩
  obtain ⟨b3, hb3⟩ : ∃ b, (er == 0) = b := ⟨_, rfl⟩
  rw [hb2, hb3]
  generalize strOf s = S at *
  cases b1 <;> cases b2 <;> cases b3
  all_goals
    go_enter Tryd.func16, Tryd.ntmps16
    go_wp2_with (first
      | (go_at_call 12; (with_reducible refine (CT.out).mono ?_); rintro e w1 ⟨A2, c2, rfl, h1, h2⟩; have H1 := Lib.hid (And.intro h2 (h1.rr HO.out)); clear h1 h2)
      | (go_at_call 13; (with_reducible refine (CS.out _ _ _ H1.out.2 (HR.out.keep H1.out.1)).mono ?_); rintro e w2 ⟨rfl, b2⟩; have H2 := Lib.hid (blw H1.out.1 b2); clear b2))
    go_ret
    exact ⟨rfl, H2.out⟩
set_option maxRecDepth 100000 in
set_option maxHeartbeats 4000000 in
theorem fails_any {s : Bs} (hl : s.length ≤ maxLen) {l : List Tk} {n er : Int} (h : tokens s = (l, n, er)) (k : Int) (w : World) (ht : W1.Tab w) : Calls Tryd.prog 18 #[.string (strOf s), .int .i64 k] w fun e w' => e = .returned (.bool (l.isEmpty && ((n == k) && (er == 80)))) ∧ Below w.heap.size w w' := by
  have CT := Lib.hid (Tokens_at hl w ht h)
  have hb1 : ((l.length : Int) == 0) = l.isEmpty := by cases l <;> simp; omega
  clear h ht
  generalize l.isEmpty = b1 at *
  generalize l.length = m at *
  obtain ⟨b2, hb2⟩ : ∃ b, (n == k) = b := ⟨_, rfl⟩
  obtain ⟨b3, hb3⟩ : ∃ b, (er == 80) = b := ⟨_, rfl⟩
  rw [hb2, hb3]
  generalize strOf s = S at *
  cases b1 <;> cases b2 <;> cases b3
  all_goals
    go_enter Tryd.func18, Tryd.ntmps18
    go_wp2_with (go_at_call 12; (with_reducible refine (CT.out).mono ?_); rintro e w1 ⟨A2, c2, rfl, h1, h2⟩; have H1 := Lib.hid h2; clear h1 h2)
    go_ret
    exact ⟨rfl, H1.out⟩
/-! ### The examples -/
def tx1 : List Tk := [⟨3, 0, [], -1⟩, ⟨5, 0, [43], 0⟩, ⟨4, 0, [], 0⟩]
theorem okl_tx1 : OKL tx1 := by
  intro x hx
  simp only [tx1, List.mem_cons, List.not_mem_nil, or_false] at hx
  rcases hx with rfl | rfl | rfl
  all_goals (unfold OKx maxLen; decide)
theorem text_tx1 : text tx1 = ([35, 70, 70, 70, 70, 70, 70, 70, 70, 32, 43, 32, 39, 42, 35, 48, 48, 39], 0) := by decide +kernel
def tx2 : List Tk := [⟨1, 0, [102], 0⟩, ⟨5, 0, [40], 0⟩, ⟨1, 0, [97], 0⟩, ⟨5, 0, [44], 0⟩, ⟨1, 0, [98], 0⟩, ⟨5, 0, [91], 0⟩, ⟨3, 0, [], 1⟩, ⟨5, 0, [93], 0⟩, ⟨5, 0, [41], 0⟩]
theorem okl_tx2 : OKL tx2 := by
  intro x hx
  simp only [tx2, List.mem_cons, List.not_mem_nil, or_false] at hx
  rcases hx with rfl | rfl | rfl | rfl | rfl | rfl | rfl | rfl | rfl
  all_goals (unfold OKx maxLen; decide)
theorem text_tx2 : text tx2 = ([102, 40, 97, 44, 32, 98, 91, 49, 93, 41], 0) := by decide +kernel
def rd1 : List Tk := [⟨1, 0, [97], 0⟩, ⟨5, 0, [58, 61], 0⟩, ⟨1, 0, [98], 0⟩, ⟨5, 0, [62, 60], 0⟩, ⟨3, 0, [], 255⟩]
theorem okl_rd1 : OKL rd1 := by
  intro x hx
  simp only [rd1, List.mem_cons, List.not_mem_nil, or_false] at hx
  rcases hx with rfl | rfl | rfl | rfl | rfl
  all_goals (unfold OKx maxLen; decide)
def rd2 : List Tk := [⟨4, 0, [], 10⟩, ⟨4, 0, [], 10⟩, ⟨4, 0, [], 39⟩]
theorem okl_rd2 : OKL rd2 := by
  intro x hx
  simp only [rd2, List.mem_cons, List.not_mem_nil, or_false] at hx
  rcases hx with rfl | rfl | rfl
  all_goals (unfold OKx maxLen; decide)
def rd3 : List Tk := [⟨1, 0, [99], 0⟩, ⟨5, 0, [33], 0⟩, ⟨5, 0, [45], 0⟩, ⟨3, 0, [], 1⟩]
theorem okl_rd3 : OKL rd3 := by
  intro x hx
  simp only [rd3, List.mem_cons, List.not_mem_nil, or_false] at hx
  rcases hx with rfl | rfl | rfl | rfl
  all_goals (unfold OKx maxLen; decide)
def rd4 : List Tk := [⟨1, 0, [73, 78, 84, 46, 120], 0⟩, ⟨2, 0, [73, 78, 84], 0⟩]
theorem okl_rd4 : OKL rd4 := by
  intro x hx
  simp only [rd4, List.mem_cons, List.not_mem_nil, or_false] at hx
  rcases hx with rfl | rfl
  all_goals (unfold OKx maxLen; decide)
set_option maxRecDepth 100000 in
set_option maxHeartbeats 16000000 in
theorem awake_any (w : World) (ht : W1.Tab w) : Calls Tryd.prog 9 #[] w fun e w' => e = .returned (.bool true) ∧ Below w.heap.size w w' := by
  have HB := Lib.hid (And.intro (b0 w) ht)
  have CN := Lib.hid (fun (v : Int) (W : World) => number_any v W)
  have CS := Lib.hid (fun (v : ByteArray) (W : World) => symbol_any v W)
  have CC := Lib.hid (fun (v : Int) (W : World) => char_any v W)
  have CM := Lib.hid (fun (v : ByteArray) (W : World) => named_any v W)
  have T1 := Lib.hid (fun (W : World) (h : W1.Tab W) => show Calls Tryd.prog 11 #[.slice (some ⟨W.heap.size, 0, none⟩) 3 3] (W.alloc (.cells #[.int .u8 3, .int .i64 0, .string ⟨#[]⟩, .int .i32 (-1), .int .u8 5, .int .i64 0, .string ⟨#[43]⟩, .int .i32 0, .int .u8 4, .int .i64 0, .string ⟨#[]⟩, .int .i32 0] 26)) (fun e w' => e = .returned (.tuple #[.string ⟨#[35, 70, 70, 70, 70, 70, 70, 70, 70, 32, 43, 32, 39, 42, 35, 48, 48, 39]⟩, .int .i64 0]) ∧ Below W.heap.size W w') from (by
    have := Text_any (rr_new (w := W.alloc (.cells (rwCs tx1).toArray 26)) (e := 26) okl_tx1 (by unfold maxLen; decide) (boxS_new W _ _)) rfl (h.below (bal (b0 W) _))
    unfold GivesX at this
    rw [text_tx1] at this
    exact this.mono fun e w' g => ⟨g.1, blw (bal (b0 W) _) g.2⟩))
  have T2 := Lib.hid (fun (W : World) (h : W1.Tab W) => show Calls Tryd.prog 11 #[.slice (some ⟨W.heap.size, 0, none⟩) 9 9] (W.alloc (.cells #[.int .u8 1, .int .i64 0, .string ⟨#[102]⟩, .int .i32 0, .int .u8 5, .int .i64 0, .string ⟨#[40]⟩, .int .i32 0, .int .u8 1, .int .i64 0, .string ⟨#[97]⟩, .int .i32 0, .int .u8 5, .int .i64 0, .string ⟨#[44]⟩, .int .i32 0, .int .u8 1, .int .i64 0, .string ⟨#[98]⟩, .int .i32 0, .int .u8 5, .int .i64 0, .string ⟨#[91]⟩, .int .i32 0, .int .u8 3, .int .i64 0, .string ⟨#[]⟩, .int .i32 1, .int .u8 5, .int .i64 0, .string ⟨#[93]⟩, .int .i32 0, .int .u8 5, .int .i64 0, .string ⟨#[41]⟩, .int .i32 0] 26)) (fun e w' => e = .returned (.tuple #[.string ⟨#[102, 40, 97, 44, 32, 98, 91, 49, 93, 41]⟩, .int .i64 0]) ∧ Below W.heap.size W w') from (by
    have := Text_any (rr_new (w := W.alloc (.cells (rwCs tx2).toArray 26)) (e := 26) okl_tx2 (by unfold maxLen; decide) (boxS_new W _ _)) rfl (h.below (bal (b0 W) _))
    unfold GivesX at this
    rw [text_tx2] at this
    exact this.mono fun e w' g => ⟨g.1, blw (bal (b0 W) _) g.2⟩))
  have R1 := Lib.hid (fun (W : World) (h : W1.Tab W) => show Calls Tryd.prog 16 #[.string ⟨#[97, 32, 58, 61, 32, 98, 62, 60, 32, 35, 70, 70]⟩, .slice (some ⟨W.heap.size, 0, none⟩) 5 5] (W.alloc (.cells #[.int .u8 1, .int .i64 0, .string ⟨#[97]⟩, .int .i32 0, .int .u8 5, .int .i64 0, .string ⟨#[58, 61]⟩, .int .i32 0, .int .u8 1, .int .i64 0, .string ⟨#[98]⟩, .int .i32 0, .int .u8 5, .int .i64 0, .string ⟨#[62, 60]⟩, .int .i32 0, .int .u8 3, .int .i64 0, .string ⟨#[]⟩, .int .i32 255] 26)) (fun e w' => e = .returned (.bool true) ∧ Below W.heap.size W w') from (by
    have := reads_any (s := [97, 32, 58, 61, 32, 98, 62, 60, 32, 35, 70, 70]) (by decide +kernel) ex1 (rr_new (w := W.alloc (.cells (rwCs rd1).toArray 26)) (e := 26) okl_rd1 (by unfold maxLen; decide) (boxS_new W _ _)) rfl (h.below (bal (b0 W) _))
    exact this.mono fun e w' g => ⟨g.1, blw (bal (b0 W) _) g.2⟩))
  have R2 := Lib.hid (fun (W : World) (h : W1.Tab W) => show Calls Tryd.prog 16 #[.string ⟨#[39, 42, 110, 39, 32, 39, 42, 35, 48, 65, 39, 32, 39, 42, 39, 39]⟩, .slice (some ⟨W.heap.size, 0, none⟩) 3 3] (W.alloc (.cells #[.int .u8 4, .int .i64 0, .string ⟨#[]⟩, .int .i32 10, .int .u8 4, .int .i64 0, .string ⟨#[]⟩, .int .i32 10, .int .u8 4, .int .i64 0, .string ⟨#[]⟩, .int .i32 39] 26)) (fun e w' => e = .returned (.bool true) ∧ Below W.heap.size W w') from (by
    have := reads_any (s := [39, 42, 110, 39, 32, 39, 42, 35, 48, 65, 39, 32, 39, 42, 39, 39]) (by decide +kernel) ex2 (rr_new (w := W.alloc (.cells (rwCs rd2).toArray 26)) (e := 26) okl_rd2 (by unfold maxLen; decide) (boxS_new W _ _)) rfl (h.below (bal (b0 W) _))
    exact this.mono fun e w' g => ⟨g.1, blw (bal (b0 W) _) g.2⟩))
  have R3 := Lib.hid (fun (W : World) (h : W1.Tab W) => show Calls Tryd.prog 16 #[.string ⟨#[99, 32, 33, 32, 45, 49]⟩, .slice (some ⟨W.heap.size, 0, none⟩) 4 4] (W.alloc (.cells #[.int .u8 1, .int .i64 0, .string ⟨#[99]⟩, .int .i32 0, .int .u8 5, .int .i64 0, .string ⟨#[33]⟩, .int .i32 0, .int .u8 5, .int .i64 0, .string ⟨#[45]⟩, .int .i32 0, .int .u8 3, .int .i64 0, .string ⟨#[]⟩, .int .i32 1] 26)) (fun e w' => e = .returned (.bool true) ∧ Below W.heap.size W w') from (by
    have := reads_any (s := [99, 32, 33, 32, 45, 49]) (by decide +kernel) ex3 (rr_new (w := W.alloc (.cells (rwCs rd3).toArray 26)) (e := 26) okl_rd3 (by unfold maxLen; decide) (boxS_new W _ _)) rfl (h.below (bal (b0 W) _))
    exact this.mono fun e w' g => ⟨g.1, blw (bal (b0 W) _) g.2⟩))
  have R4 := Lib.hid (fun (W : World) (h : W1.Tab W) => show Calls Tryd.prog 16 #[.string ⟨#[73, 78, 84, 46, 120, 32, 73, 78, 84]⟩, .slice (some ⟨W.heap.size, 0, none⟩) 2 2] (W.alloc (.cells #[.int .u8 1, .int .i64 0, .string ⟨#[73, 78, 84, 46, 120]⟩, .int .i32 0, .int .u8 2, .int .i64 0, .string ⟨#[73, 78, 84]⟩, .int .i32 0] 26)) (fun e w' => e = .returned (.bool true) ∧ Below W.heap.size W w') from (by
    have := reads_any (s := [73, 78, 84, 46, 120, 32, 73, 78, 84]) (by decide +kernel) ex4 (rr_new (w := W.alloc (.cells (rwCs rd4).toArray 26)) (e := 26) okl_rd4 (by unfold maxLen; decide) (boxS_new W _ _)) rfl (h.below (bal (b0 W) _))
    exact this.mono fun e w' g => ⟨g.1, blw (bal (b0 W) _) g.2⟩))
  have R5 := Lib.hid (fun (W : World) (h : W1.Tab W) => show Calls Tryd.prog 16 #[.string ⟨#[]⟩, .slice none 0 0] W (fun e w' => e = .returned (.bool true) ∧ Below W.heap.size W w') from reads_any (s := []) (by decide +kernel) ex5 (RR.nil W) rfl h)
  have F1 := Lib.hid (fun (W : World) (h : W1.Tab W) => show Calls Tryd.prog 18 #[.string ⟨#[120, 32, 32, 36]⟩, .int .i64 3] W (fun e w' => e = .returned (.bool true) ∧ Below W.heap.size W w') from fails_any (s := [120, 32, 32, 36]) (by decide +kernel) ex6 3 W h)
  have F2 := Lib.hid (fun (W : World) (h : W1.Tab W) => show Calls Tryd.prog 18 #[.string ⟨#[35, 49, 50, 51, 52, 53, 54, 55, 56, 65]⟩, .int .i64 0] W (fun e w' => e = .returned (.bool true) ∧ Below W.heap.size W w') from fails_any (s := [35, 49, 50, 51, 52, 53, 54, 55, 56, 65]) (by decide +kernel) ex7 0 W h)
  have F3 := Lib.hid (fun (W : World) (h : W1.Tab W) => show Calls Tryd.prog 18 #[.string ⟨#[97, 32, 50, 49, 52, 55, 52, 56, 51, 54, 52, 56]⟩, .int .i64 2] W (fun e w' => e = .returned (.bool true) ∧ Below W.heap.size W w') from fails_any (s := [97, 32, 50, 49, 52, 55, 52, 56, 51, 54, 52, 56]) (by decide +kernel) ex8 2 W h)
  have F4 := Lib.hid (fun (W : World) (h : W1.Tab W) => show Calls Tryd.prog 18 #[.string ⟨#[39, 97, 98, 39]⟩, .int .i64 0] W (fun e w' => e = .returned (.bool true) ∧ Below W.heap.size W w') from fails_any (s := [39, 97, 98, 39]) (by decide +kernel) ex9 0 W h)
  have F5 := Lib.hid (fun (W : World) (h : W1.Tab W) => show Calls Tryd.prog 18 #[.string ⟨#[120, 32, 58, 61, 32, 49, 50, 97, 98]⟩, .int .i64 5] W (fun e w' => e = .returned (.bool true) ∧ Below W.heap.size W w') from fails_any (s := [120, 32, 58, 61, 32, 49, 50, 97, 98]) (by decide +kernel) exA 5 W h)
  have N1 := Lib.hid (fun (W : World) => show Calls Tryd.prog 23 #[.string ⟨#[102, 114, 111, 109, 46, 104, 111, 115, 116]⟩] W (fun e w' => e = .returned (.bool true) ∧ W = w') from (by
    have := Name_any [102, 114, 111, 109, 46, 104, 111, 115, 116] (by decide +kernel) W
    rw [exN1] at this
    exact this))
  have N2 := Lib.hid (fun (W : World) => show Calls Tryd.prog 23 #[.string ⟨#[83, 69, 81]⟩] W (fun e w' => e = .returned (.bool false) ∧ W = w') from (by
    have := Name_any [83, 69, 81] (by decide +kernel) W
    rw [exN2] at this
    exact this))
  have K1 := Lib.hid (fun (W : World) => show Calls Tryd.prog 24 #[.string ⟨#[83, 101, 113]⟩] W (fun e w' => e = .returned (.bool false) ∧ W = w') from (by
    have := Key_any [83, 101, 113] W
    rw [exK] at this
    exact this))
  have M1 := Lib.hid (fun (W : World) => show Calls Tryd.prog 10 #[.agg #[.int .u8 4, .int .i64 0, .string ⟨#[]⟩, .int .i32 256]] W (fun e w' => e = .returned (.bool false) ∧ Below W.heap.size W w') from (by
    have := May_any ⟨4, 0, [], 256⟩ (by unfold OKx maxLen; decide) W
    rw [exM] at this
    exact this))
  clear ht
  go_enter Tryd.func9, Tryd.ntmps9
  go_wp2_with (first
    | (go_at_call 17; (with_reducible refine (CN.out _ _).mono ?_); rintro e w9 ⟨rfl, b⟩; replace HB := Lib.hid (And.intro (blw HB.out.1 b) (HB.out.2.below b)); clear b)
    | (go_at_call 21; (with_reducible refine (CS.out _ _).mono ?_); rintro e w9 ⟨rfl, b⟩; replace HB := Lib.hid (And.intro (blw HB.out.1 b) (HB.out.2.below b)); clear b)
    | (go_at_call 20; (with_reducible refine (CC.out _ _).mono ?_); rintro e w9 ⟨rfl, b⟩; replace HB := Lib.hid (And.intro (blw HB.out.1 b) (HB.out.2.below b)); clear b)
    | (go_at_call 22; (with_reducible refine (CM.out _ _).mono ?_); rintro e w9 ⟨rfl, b⟩; replace HB := Lib.hid (And.intro (blw HB.out.1 b) (HB.out.2.below b)); clear b)
    | (go_at_call 11; (with_reducible refine (T1.out _ HB.out.2).mono ?_); clear T1; rintro e t1 ⟨rfl, b⟩; replace HB := Lib.hid (And.intro (blw HB.out.1 b) (HB.out.2.below b)); clear b)
    | (go_at_call 11; (with_reducible refine (T2.out _ HB.out.2).mono ?_); clear T2; rintro e t2 ⟨rfl, b⟩; replace HB := Lib.hid (And.intro (blw HB.out.1 b) (HB.out.2.below b)); clear b)
    | (go_at_call 16; (with_reducible refine (R1.out _ HB.out.2).mono ?_); clear R1; rintro e r1 ⟨rfl, b⟩; replace HB := Lib.hid (And.intro (blw HB.out.1 b) (HB.out.2.below b)); clear b)
    | (go_at_call 16; (with_reducible refine (R2.out _ HB.out.2).mono ?_); clear R2; rintro e r2 ⟨rfl, b⟩; replace HB := Lib.hid (And.intro (blw HB.out.1 b) (HB.out.2.below b)); clear b)
    | (go_at_call 16; (with_reducible refine (R3.out _ HB.out.2).mono ?_); clear R3; rintro e r3 ⟨rfl, b⟩; replace HB := Lib.hid (And.intro (blw HB.out.1 b) (HB.out.2.below b)); clear b)
    | (go_at_call 16; (with_reducible refine (R4.out _ HB.out.2).mono ?_); clear R4; rintro e r4 ⟨rfl, b⟩; replace HB := Lib.hid (And.intro (blw HB.out.1 b) (HB.out.2.below b)); clear b)
    | (go_at_call 16; (with_reducible refine (R5.out _ HB.out.2).mono ?_); clear R5; rintro e r5 ⟨rfl, b⟩; replace HB := Lib.hid (And.intro (blw HB.out.1 b) (HB.out.2.below b)); clear b)
    | (go_at_call 18; (with_reducible refine (F1.out _ HB.out.2).mono ?_); clear F1; rintro e f1 ⟨rfl, b⟩; replace HB := Lib.hid (And.intro (blw HB.out.1 b) (HB.out.2.below b)); clear b)
    | (go_at_call 18; (with_reducible refine (F2.out _ HB.out.2).mono ?_); clear F2; rintro e f2 ⟨rfl, b⟩; replace HB := Lib.hid (And.intro (blw HB.out.1 b) (HB.out.2.below b)); clear b)
    | (go_at_call 18; (with_reducible refine (F3.out _ HB.out.2).mono ?_); clear F3; rintro e f3 ⟨rfl, b⟩; replace HB := Lib.hid (And.intro (blw HB.out.1 b) (HB.out.2.below b)); clear b)
    | (go_at_call 18; (with_reducible refine (F4.out _ HB.out.2).mono ?_); clear F4; rintro e f4 ⟨rfl, b⟩; replace HB := Lib.hid (And.intro (blw HB.out.1 b) (HB.out.2.below b)); clear b)
    | (go_at_call 18; (with_reducible refine (F5.out _ HB.out.2).mono ?_); clear F5; rintro e f5 ⟨rfl, b⟩; replace HB := Lib.hid (And.intro (blw HB.out.1 b) (HB.out.2.below b)); clear b)
    | (go_at_call 23; (with_reducible refine (N1.out _).mono ?_); clear N1; rintro e n1 ⟨rfl, rfl⟩)
    | (go_at_call 23; (with_reducible refine (N2.out _).mono ?_); clear N2; rintro e n1 ⟨rfl, rfl⟩)
    | (go_at_call 24; (with_reducible refine (K1.out _).mono ?_); clear K1; rintro e n1 ⟨rfl, rfl⟩)
    | (go_at_call 10; (with_reducible refine (M1.out _).mono ?_); clear M1; rintro e m1 ⟨rfl, b⟩; replace HB := Lib.hid (And.intro (blw HB.out.1 b) (HB.out.2.below b)); clear b))
  go_ret
  exact ⟨rfl, HB.out.1⟩
end Go.Proofs.YtldnmdadlgjbgaaDoor
