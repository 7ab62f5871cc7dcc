/- The lines of the examples: what the functions answer to them. -/
import Derived.Deep.Slices
import Derived.ChangeSame
import Derived.Test.YtjdjkdgdbdenpaaDoorM27
import Derived.Test.YtjdjkdgdbdenpaaDoorM32
import Derived.Test.YtjdjkdgdbdenpaaDoorM28
import Derived.Test.YtjdjkdgdbdenpaaDoorM22
import Derived.Test.YtjdjkdgdbdenpaaDoorM20
set_option linter.unusedVariables false
set_option linter.unusedSimpArgs false
namespace Go.Proofs.YtjdjkdgdbdenpaaDoor
open Go Go.RowKit
open C4 (add_block add_add_ add_plain add_succ_)

def sm : List Ln := [⟨[97], 0, 0, [98], []⟩, ⟨[], 4, 300, [], []⟩, ⟨[98], 0, 0, [97], []⟩, ⟨[], 4, 0, [98], [97]⟩]
def smT : Bs := [98, 58, 32, 106, 32, 97, 10, 108, 100, 99, 32, 98, 45, 97, 10]
theorem sm_ok : OKL sm := by
  intro x hx
  simp only [sm, List.mem_cons, List.not_mem_nil, or_false] at hx
  rcases hx with rfl | rfl | rfl | rfl <;> exact ⟨by decide, ⟨by decide, by decide⟩, by simp [maxLen], by simp [maxLen], by simp [maxLen]⟩
theorem sm_wd : ∀ x ∈ sm, Wd x := by
  intro x hx
  simp only [sm, List.mem_cons, List.not_mem_nil, or_false] at hx
  rcases hx with rfl | rfl | rfl | rfl <;> exact ⟨by decide, by decide⟩
theorem sm_chk : chk sm = 0 := by decide +kernel
theorem sm_len : lenR sm = [1, 3, 2, 1] := by decide +kernel
theorem sm_code : codeR sm = [3, 33, 34, 76, 96, 10, 68] := by decide +kernel
theorem sm_at : atR sm = [0, 1, 4, 6] := by decide +kernel
theorem sm_one : chk (sm.take 1) = 60 ∧ lenR (sm.take 1) = [] := by decide +kernel
theorem sm_two : (sm.drop 2).all vld = true ∧ txt (sm.drop 2) = smT := by decide +kernel
theorem sm_text : textL6 (sm.drop 2) = smT ∧ textE (sm.drop 2) = 0 := ⟨by unfold textL6; rw [if_pos sm_two.1, sm_two.2], by unfold textE; rw [if_pos sm_two.1]⟩
theorem sm_read : rdL smT = sm.drop 2 ∧ rdN smT = 0 ∧ rdE smT = 0 := by
  have := rd_txt sm_two.1 (fun x hx => sm_wd x (List.mem_of_mem_drop hx))
  rwa [sm_two.2] at this
/-- The lines of the examples lie in a block. -/
def SmAt (W : World) (g : Nat) : Prop := W.heap[g]? = some (.cells (lnCs sm).toArray 39 (0, 0))
theorem SmAt.keep {W W' : World} {g : Nat} (h : SmAt W g) (b : Below W.heap.size W W') : SmAt W' g := (b.block g (Array.getElem?_eq_some_iff.1 h).1).trans h
theorem SmAt.lt {W : World} {g : Nat} (h : SmAt W g) : g < W.heap.size := (Array.getElem?_eq_some_iff.1 h).1
theorem SmAt.rl {W : World} {g : Nat} (h : SmAt W g) : RL W (some ⟨g, 0, none⟩) 4 sm :=
  OwnL.rl (B := 0) (n := 4) ⟨rfl, .inr ⟨g, 4, _, rfl, Nat.zero_le _, h, by decide, by unfold maxLen; decide, by simp [lnCs_len]; rfl, rfl⟩⟩ sm_ok
theorem SmAt.rl1 {W : World} {g : Nat} (h : SmAt W g) : RL W (some ⟨g, 0, none⟩) 4 (sm.take 1) :=
  ⟨by decide, by unfold maxLen; decide, fun x hx => sm_ok x (List.mem_of_mem_take hx), fun j hj => by
    have hj0 : j = 0 := by have : (sm.take 1).length = 1 := rfl; omega
    subst hj0
    exact h.rl.rd 0 (by decide)⟩
theorem SmAt.rl2 {W : World} {g : Nat} (h : SmAt W g) : RL W (some ⟨g, 10, none⟩) 2 (sm.drop 2) :=
  ⟨by decide, by unfold maxLen; decide, fun x hx => sm_ok x (List.mem_of_mem_drop hx), fun j hj => by
    have hj2 : j < 2 := hj
    obtain ⟨ad, e, hl⟩ := h.rl.rd (2 + j) (by have : sm.length = 4 := rfl; omega)
    cases e
    refine ⟨_, rfl, ?_⟩
    rw [add_plain] at hl ⊢
    rw [show 10 + j * 5 = 0 + (2 + j) * 5 by omega]
    have : (sm.drop 2).getD j l0 = sm.getD (2 + j) l0 := by simp
    rw [this]
    exact hl⟩
set_option maxRecDepth 100000 in
theorem sample_any (w : World) : Calls Tryd.prog 17 #[] w fun e w' => e = .returned (.slice (some ⟨w.heap.size, 0, none⟩) 4 4) ∧ SmAt w' w.heap.size ∧ Below w.heap.size w w' := by
  go_enter Tryd.func17, Tryd.ntmps17
  go_wp2
  go_ret
  refine ⟨rfl, ?_, bal (b0 w) _⟩
  show (w.heap.push _)[w.heap.size]? = _
  simp
  rfl
end Go.Proofs.YtjdjkdgdbdenpaaDoor
/- The examples inside each law hold. -/
namespace Go.Proofs.YtjdjkdgdbdenpaaDoor
open Go Go.RowKit

theorem owned_lt {W : World} {B n c s k : Nat} {e : TypeId} {A : Option Addr} {xs : List Value} (h : W.ownsRow B e s (.slice A n c) k xs) : ∀ ad, A = some ad → ad.block < W.heap.size := by
  intro ad e'
  subst e'
  exact (h.lt ad.block rfl).2
theorem rn_block {W : World} {q : Nat} {ns : List Nat} (h : W.heap[q]? = some (.cells (nums ns).toArray 3 (0, 0))) (hl : ns.length ≤ 1000) : RN W (some ⟨q, 0, none⟩) ns.length ns :=
  OwnN.rn (B := 0) (n := ns.length) ⟨by rw [nums_len, Nat.mul_one], .inr ⟨q, ns.length, _, rfl, Nat.zero_le _, h, Nat.le_refl _, by unfold maxLen; omega, by simp [nums_len], by rw [Nat.mul_one]; exact List.take_of_length_le (by rw [nums_len]; exact Nat.le_refl _)⟩⟩
/-- What the calls of the examples answer. -/
theorem len_sm {W : World} {g : Nat} (h : SmAt W g) (hg : Good6 W) : Calls Tryd.prog 8 #[.slice (some ⟨g, 0, none⟩) 4 4] W fun e W' => ∃ A c, e = .returned (.tuple #[.slice A 4 c, .int .i64 0]) ∧ RN W' A c [1, 3, 2, 1] ∧ Below W.heap.size W W' := by
  have C := Lengths_any h.rl (fun ad e _ => by cases e; exact h.lt) rfl (by decide) hg.1.1
  refine C.mono fun e W' hh => ?_
  unfold GivesNE at hh
  rw [sm_len, sm_chk] at hh
  obtain ⟨A, c, h1, h2, h3⟩ := hh
  exact ⟨A, c, h1, h2.rn, h3⟩
theorem len_one {W : World} {g : Nat} (h : SmAt W g) (hg : Good6 W) : Calls Tryd.prog 8 #[.slice (some ⟨g, 0, none⟩) 1 4] W fun e W' => ∃ A c, e = .returned (.tuple #[.slice A 0 c, .int .i64 60]) ∧ Below W.heap.size W W' := by
  have C := Lengths_any h.rl1 (fun ad e _ => by cases e; exact h.lt) rfl (by decide) hg.1.1
  refine C.mono fun e W' hh => ?_
  unfold GivesNE at hh
  rw [sm_one.1, sm_one.2] at hh
  obtain ⟨A, c, h1, _, h3⟩ := hh
  exact ⟨A, c, h1, h3⟩
theorem asm_sm {W : World} {g : Nat} (h : SmAt W g) (hg : Good6 W) : Calls Tryd.prog 11 #[.slice (some ⟨g, 0, none⟩) 4 4] W fun e W' => ∃ A c B d, e = .returned (.tuple #[.slice A 7 c, .slice B 4 d, .int .i64 0]) ∧ C4.RS W' A c [3, 33, 34, 76, 96, 10, 68] ∧ RN W' B d [0, 1, 4, 6] ∧ Below W.heap.size W W' := by
  have C := Assemble_any h.rl (fun ad e _ => by cases e; exact h.lt) rfl (by decide) hg.1.1
  refine C.mono fun e W' hh => ?_
  unfold GivesBN at hh
  rw [sm_code, sm_at, sm_chk] at hh
  obtain ⟨A, c, B, d, h1, h2, h3, h4⟩ := hh
  exact ⟨A, c, B, d, h1, h2, h3, h4⟩
theorem text_sm {W : World} {g : Nat} (h : SmAt W g) (hg : Good6 W) : Calls Tryd.prog 18 #[.slice (some ⟨g, 10, none⟩) 2 2] W fun e W' => e = .returned (.tuple #[.string (strOf smT), .int .i64 0]) ∧ Below W.heap.size W W' := by
  have C := AText_any h.rl2 rfl (by decide) hg.1
  rw [sm_text.1, sm_text.2] at C
  exact C
theorem read_sm {W : World} (hg : Good6 W) : Calls Tryd.prog 19 #[.string (strOf smT)] W fun e W' => ∃ A c, e = .returned (.tuple #[.slice A 2 c, .int .i64 0, .int .i64 0]) ∧ RL W' A c (sm.drop 2) ∧ Below W.heap.size W W' := by
  have C := ARead_any smT (by decide) W hg
  refine C.mono fun e W' hh => ?_
  unfold GivesLN at hh
  rw [sm_read.1, sm_read.2.1, sm_read.2.2] at hh
  obtain ⟨A, c, h1, h2, h3⟩ := hh
  exact ⟨A, c, h1, OwnL.rl h2 (fun x hx => sm_ok x (List.mem_of_mem_drop hx)), h3⟩
theorem may_sm {W : World} {g : Nat} (h : SmAt W g) (hg : Good6 W) : Calls Tryd.prog 21 #[.slice (some ⟨g, 0, none⟩) 4 4] W fun e W' => e = .returned (.bool true) ∧ Below W.heap.size W W' := by
  have C := AMay_any h.rl rfl (by decide) hg.1.1
  rw [sm_chk] at C
  exact C
theorem same_sm {W : World} {A : Option Addr} {c g : Nat} (R : RL W A c (sm.drop 2)) (h : SmAt W g) : Calls Tryd.prog 20 #[.slice A 2 c, .slice (some ⟨g, 10, none⟩) 2 2] W fun e W' => e = .returned (.bool true) ∧ Below W.heap.size W W' := by
  have C := RSame_any R h.rl2 rfl rfl
  rwa [decide_eq_true rfl] at C
theorem same_ns {W : World} {A B : Option Addr} {c d m : Nat} {ns : List Nat} (R : RN W A c ns) (S : RN W B d ns) (hm : ns.length = m) : Calls Tryd.prog 9 #[.slice A m c, .slice B m d] W fun e W' => e = .returned (.bool true) ∧ Below W.heap.size W W' := by
  have C := RSameInts_any R S hm hm
  rwa [decide_eq_true rfl] at C
theorem four_at (V : World) (a b c d : Nat) : RN (V.alloc (.cells #[.int .i64 (a : Int), .int .i64 (b : Int), .int .i64 (c : Int), .int .i64 (d : Int)] 3)) (some ⟨V.heap.size, 0, none⟩) 4 [a, b, c, d] :=
  rn_block (ns := [a, b, c, d]) (World.alloc_heap_new V _) (by simp)
set_option maxRecDepth 100000 in
set_option maxHeartbeats 8000000 in
theorem head_any (w : World) (hg : Good6 w) : Calls Tryd.prog 7 #[] w fun e w' => e = .returned (.bool true) ∧ Below w.heap.size w w' := by
  have HG := Lib.hid hg
  have P1 := Lib.hid sample_any
  have P2 := Lib.hid sample_any
  have P3 := Lib.hid sample_any
  have P4 := Lib.hid sample_any
  have P5 := Lib.hid sample_any
  have P6 := Lib.hid sample_any
  have hT : (strOf smT).toList = (⟨#[98, 58, 32, 106, 32, 97, 10, 108, 100, 99, 32, 98, 45, 97, 10]⟩ : ByteArray).toList := rfl
  have hS : (⟨#[98, 58, 32, 106, 32, 97, 10, 108, 100, 99, 32, 98, 45, 97, 10]⟩ : ByteArray) = strOf smT := rfl
  have hC : (C4.str [3, 33, 34, 76, 96, 10, 68]).toList = [3, 33, 34, 76, 96, 10, 68] := by
    rw [show C4.str [3, 33, 34, 76, 96, 10, 68] = (⟨#[3, 33, 34, 76, 96, 10, 68]⟩ : ByteArray) from rfl]
    simp
  clear hg hT
  go_enter Tryd.func7, Tryd.ntmps7
  go_wp2_with (first
    | (go_at_call 17; refine (P1.out _).mono ?_; clear P1; rintro e v1 ⟨rfl, s1, b1⟩; have H1 := Lib.hid (And.intro s1 b1); clear s1 b1)
    | (go_at_call 8; (with_reducible refine (len_sm H1.out.1 (HG.out.below H1.out.2)).mono ?_); rintro e v2 ⟨A2, c2, rfl, r2, b2⟩; have H2 := Lib.hid (And.intro r2 (blw H1.out.2 b2)); clear r2 b2 H1)
    | (go_at_call 17; refine (P2.out _).mono ?_; clear P2; rintro e v3 ⟨rfl, s3, b3⟩; have H3 := Lib.hid (And.intro s3 (And.intro (blw H2.out.2 b3) (H2.out.1.keep b3))); clear s3 b3 H2)
    | (go_at_call 11; refine (asm_sm H3.out.1 (HG.out.below H3.out.2.1)).mono ?_; rintro e v4 ⟨A4, c4, B4, d4, rfl, r4, q4, b4⟩; have H4 := Lib.hid (And.intro (blw H3.out.2.1 b4) (And.intro (H3.out.2.2.keep b4) (And.intro r4 q4))); clear r4 q4 b4 H3)
    | (go_at_call 17; refine (P3.out _).mono ?_; clear P3; rintro e v5 ⟨rfl, s5, b5⟩; have H5 := Lib.hid (And.intro (blw H4.out.1 b5) (And.intro (H4.out.2.1.keep b5) (And.intro (C4.RS.kept0 H4.out.2.2.1 (g_of_below b5)) (And.intro (H4.out.2.2.2.keep b5) s5)))); clear s5 b5 H4)
    | (go_at_call 8; (with_reducible refine (len_one H5.out.2.2.2.2 (HG.out.below H5.out.1)).mono ?_); rintro e v6 ⟨A6, c6, rfl, b6⟩; have H6 := Lib.hid (And.intro (blw H5.out.1 b6) (And.intro (H5.out.2.1.keep b6) (And.intro (C4.RS.kept0 H5.out.2.2.1 (g_of_below b6)) (H5.out.2.2.2.1.keep b6)))); clear b6 H5)
    | (go_at_call 17; refine (P4.out _).mono ?_; clear P4; rintro e v7 ⟨rfl, s7, b7⟩; have H7 := Lib.hid (And.intro (blw H6.out.1 b7) (And.intro (H6.out.2.1.keep b7) (And.intro (C4.RS.kept0 H6.out.2.2.1 (g_of_below b7)) (And.intro (H6.out.2.2.2.keep b7) s7)))); clear s7 b7 H6)
    | (go_at_call 18; (with_reducible refine (text_sm H7.out.2.2.2.2 (HG.out.below H7.out.1)).mono ?_); rintro e v8 ⟨rfl, b8⟩; have H8 := Lib.hid (And.intro (blw H7.out.1 b8) (And.intro (H7.out.2.1.keep b8) (And.intro (C4.RS.kept0 H7.out.2.2.1 (g_of_below b8)) (H7.out.2.2.2.1.keep b8)))); clear b8 H7)
    | (go_at_call 19; (with_reducible refine (read_sm (HG.out.below H8.out.1)).mono ?_); rintro e v9 ⟨A9, c9, rfl, r9, b9⟩; have H9 := Lib.hid (And.intro (blw H8.out.1 b9) (And.intro (H8.out.2.1.keep b9) (And.intro (C4.RS.kept0 H8.out.2.2.1 (g_of_below b9)) (And.intro (H8.out.2.2.2.keep b9) r9)))); clear r9 b9 H8)
    | (go_at_call 9; refine (same_ns (H9.out.2.1.keep (bal (b0 v9) _)) (four_at v9 1 3 2 1) rfl).mono ?_; rintro e v10 ⟨rfl, b10⟩; have K10 := Lib.hid (blw (bal (b0 v9) _) b10); have H10 := Lib.hid (And.intro (blw H9.out.1 K10.out) (And.intro (H9.out.2.2.2.1.keep K10.out) (H9.out.2.2.2.2.keep K10.out))); have k10 := C4.str_any (C4.RS.kept0 H9.out.2.2.1 (g_of_below K10.out)) 7 rfl; clear b10 H9 K10)
    | (go_at_call 9; refine (same_ns (H10.out.2.1.keep (bal (b0 v10) _)) (four_at v10 0 1 4 6) rfl).mono ?_; rintro e v11 ⟨rfl, b11⟩; have K11 := Lib.hid (blw (bal (b0 v10) _) b11); have H11 := Lib.hid (And.intro (blw H10.out.1 K11.out) (H10.out.2.2.keep K11.out)); clear b11 H10 K11)
    | (go_at_call 17; refine (P5.out _).mono ?_; clear P5; rintro e v12 ⟨rfl, s12, b12⟩; have H12 := Lib.hid (And.intro (blw H11.out.1 b12) (And.intro (H11.out.2.keep b12) s12)); clear s12 b12 H11)
    | (go_at_call 20; refine (same_sm H12.out.2.1 H12.out.2.2).mono ?_; rintro e v13 ⟨rfl, b13⟩; have H13 := Lib.hid (blw H12.out.1 b13); clear b13 H12)
    | (go_at_call 17; refine (P6.out _).mono ?_; clear P6; rintro e v14 ⟨rfl, s14, b14⟩; have H14 := Lib.hid (And.intro (blw H13.out b14) s14); clear s14 b14 H13)
    | (go_at_call 21; refine (may_sm H14.out.2 (HG.out.below H14.out.1)).mono ?_; rintro e v15 ⟨rfl, b15⟩; have H15 := Lib.hid (blw H14.out.1 b15); clear b15 H14))
  go_ret
  exact ⟨rfl, H15.out⟩
end Go.Proofs.YtjdjkdgdbdenpaaDoor
/- Lines that came in, and lines in memory of their own. -/
namespace Go.Proofs.YtjdjkdgdbdenpaaDoor
open Go Go.RowKit Go.ChangeShapes Go.WideShapes Go.Deep Go.ChangeAt
open C4 (add_block add_add_ add_plain add_succ_)

/-- A slice of lines that came in. -/
def IsLs (w : World) (A : Option Addr) (len cap : Nat) : Prop := ∃ ls : List Ln, ls.length = len ∧ RL w A cap ls ∧ (0 < len → ∀ ad, A = some ad → ad.block < w.heap.size)
theorem list_of {P : Nat → Ln → Prop} (n : Nat) (h : ∀ i, i < n → ∃ x, P i x) : ∃ ls : List Ln, ls.length = n ∧ ∀ i, i < n → P i (ls.getD i l0) := by
  induction n with
  | zero => exact ⟨[], rfl, fun i hi => absurd hi (by omega)⟩
  | succ n ih =>
    obtain ⟨ls, hl, hp⟩ := ih (fun i hi => h i (by omega))
    obtain ⟨x, hx⟩ := h n (by omega)
    refine ⟨ls ++ [x], by simp [hl], fun i hi => ?_⟩
    by_cases hin : i < n
    · have e : (ls ++ [x]).getD i l0 = ls.getD i l0 := by simp [List.getElem?_append_left (show i < ls.length by omega)]
      rw [e]; exact hp i hin
    · obtain rfl : i = n := by omega
      have e : (ls ++ [x]).getD i l0 = x := by simp [← hl]
      rw [e]; exact hx
theorem u8_bd {q : Int} (h : (Lit.int .u8 q).wf = true) : 0 ≤ q ∧ q < 256 := by
  simp only [Lit.wf, IntKind.min, IntKind.max, IntKind.signed, IntKind.bits, Bool.and_eq_true] at h
  have h1 := h.1
  have h2 := h.2
  simp at h1 h2
  omega
theorem i32_bd {q : Int} (h : (Lit.int .i32 q).wf = true) : isW q := by
  simp only [Lit.wf, IntKind.min, IntKind.max, IntKind.signed, IntKind.bits, Bool.and_eq_true] at h
  have h1 := h.1
  have h2 := h.2
  simp at h1 h2
  unfold isW
  omega
theorem str_self (s : ByteArray) : s = strOf s.data.toList := by cases s; rfl
section
variable {H : Type} {enc : TypeId × Value → H} {w : World}
set_option maxRecDepth 100000 in
theorem open_line {fuel : Nat} {cs : List Value} {x : DataW H × List MemPlace} (h : DataW.trod enc Tryd.prog w 0 (fun _ => true) true fuel 39 cs = some x) : ∃ y : Ln, cs = lnC y ∧ OKx y := by
  obtain ⟨xs, n, _, _, hl, hlen, hf⟩ := DataW.trod_struct Tryd.underlying39 h
  have kl : Tryd.prog.cellsOf 39 = 5 := by kernel_rfl
  have k5 : Tryd.prog.cellsOf 5 = 1 := by kernel_rfl
  have k21 : Tryd.prog.cellsOf 21 = 1 := by kernel_rfl
  have k9 : Tryd.prog.cellsOf 9 = 1 := by kernel_rfl
  rw [kl] at hl
  match cs, hl with
  | [c0, c1, c2, c3, c4], _ =>
    match xs, hlen with
    | [y0, y1, y2, y3, y4], _ =>
      have f0 := hf 0 _ rfl
      have f1 := hf 1 _ rfl
      have f2 := hf 2 _ rfl
      have f3 := hf 3 _ rfl
      have f4 := hf 4 _ rfl
      simp [k5, k21, k9] at f0 f1 f2 f3 f4
      obtain ⟨s0, e0, _, w0⟩ := DataW.trod_string Tryd.underlying9 f0
      obtain ⟨q, e1, _, w1⟩ := DataW.trod_int Tryd.underlying5 f1
      obtain ⟨a, e2, _, w2⟩ := DataW.trod_int Tryd.underlying21 f2
      obtain ⟨s3, e3, _, w3⟩ := DataW.trod_string Tryd.underlying9 f3
      obtain ⟨s4, e4, _, w4⟩ := DataW.trod_string Tryd.underlying9 f4
      injection e0 with e0
      injection e1 with e1
      injection e2 with e2
      injection e3 with e3
      injection e4 with e4
      subst e0 e1 e2 e3 e4
      have hq := u8_bd w1
      obtain ⟨f, rfl⟩ := Int.eq_ofNat_of_zero_le hq.1
      refine ⟨⟨s0.data.toList, f, a, s3.data.toList, s4.data.toList⟩, ?_, by show f < 256; omega, i32_bd w2, ?_, ?_, ?_⟩
      · unfold lnC
        dsimp only
        rw [← str_self s0, ← str_self s3, ← str_self s4]
      · simpa using w0
      · simpa using w3
      · simpa using w4
theorem open_lines {fuel : Nat} {A : Option Addr} {len cap : Nat} {x : DataW H × List MemPlace} (h : DataW.trod enc Tryd.prog w 0 (fun _ => true) true fuel 22 [.slice A len cap] = some x) : IsLs w A len cap := by
  have kl : Tryd.prog.cellsOf 39 = 5 := by kernel_rfl
  rcases open_slice Tryd.underlying22 h with ⟨e, _⟩ | ⟨a, l, c, m, n, D, Pl, e, _, hl, hm, hmm, _, hi⟩
  · injection e with e _
    injection e with e1 e2 e3
    subst e1 e2 e3
    exact ⟨[], rfl, RL.nil w, fun h => absurd h (by omega)⟩
  · injection e with e _
    injection e with e1 e2 e3
    subst e1 e2 e3
    obtain ⟨ls, hls, hp⟩ := list_of (P := fun i y => OKx y ∧ LnAt w (a.add (i * 5)) y) len (fun i him => by
      obtain ⟨cs, hc, ht⟩ := hi i (by simp at hmm; omega)
      rw [kl] at hc
      obtain ⟨_, hcl, hat⟩ := World.cells?_some hc
      obtain ⟨y, rfl, hy⟩ := open_line ht
      refine ⟨y, hy, ?_⟩
      have hcell : ∀ j, j < 5 → w.cell? ((a.add (i * 5)).add j) = (lnC y)[j]? := fun j hj => hat j hj
      have h0 := hcell 0 (by omega)
      rw [add_add_, Nat.add_zero] at h0
      have hs : ∀ j, j < 4 → w.cell? ⟨(a.add (i * 5)).block, (a.add (i * 5)).off + (j + 1), none⟩ = (lnC y)[j + 1]? := fun j hj => by
        have := hcell (j + 1) (by omega)
        rwa [add_succ_] at this
      exact ⟨h0, hs 0 (by omega), hs 1 (by omega), hs 2 (by omega), hs 3 (by omega)⟩)
    refine ⟨ls, hls, ⟨by omega, by omega, fun y hy => ?_, fun j hj => ⟨a, rfl, (hp j (by omega)).2⟩⟩, fun h0 ad e => ?_⟩
    · obtain ⟨i, hi', rfl⟩ := List.getElem_of_mem hy
      have := (hp i (by omega)).1
      have e : ls.getD i l0 = ls[i] := by simp [hi']
      rwa [e] at this
    · cases e
      have := g_lt (hp 0 h0).2.1
      rwa [add_block] at this
end
theorem own_any {A : Option Addr} {c m : Nat} {ls : List Ln} {w : World} (R : RL w A c ls) (hm : ls.length = m) (h1 : m ≤ 1000) : Calls Tryd.prog 14 #[.slice A m c] w fun e w' => ∃ A2 c2, e = .returned (.slice A2 m c2) ∧ OwnL w' w.heap.size A2 m c2 ls ∧ Below w.heap.size w w' := by
  have HR := Lib.hid R
  have HM := Lib.hid hm
  clear R hm
  go_enter Tryd.func14, Tryd.ntmps14
  go_wp2_with (at_builtin; refine app_lns rfl (.tmp 4) (.tmp 5) rfl w.heap.size 0 0 m c m none A [] ls rfl rfl (ownL_nil w _) HM.out HR.out (by omega) (by omega) (Nat.le_refl _) ?_; intro A2 c2 w2 o2 g2; have H2 := Lib.hid (And.intro o2 g2); clear o2 g2)
  go_ret
  exact ⟨A2, c2, rfl, by have := H2.out.1; rwa [List.nil_append] at this, g_below0 H2.out.2⟩
end Go.Proofs.YtjdjkdgdbdenpaaDoor
