/- The laws' examples (head). -/
import Derived.Test.YtbkbhlbfkfnljaaGreatDoorM17
set_option linter.unusedVariables false
set_option linter.unusedSimpArgs false
set_option linter.unusedVariables false
set_option linter.unusedSimpArgs false
namespace Go.Proofs.YtbkbhlbfkfnljaaGreatDoor
open Go Go.RowKit L8 L9

def hT : Ty := ⟨4, 3, 2, []⟩
def hL : List Tk := [sy [91], nb 3, sy [93], kw wChan, kw wOf, kw wByte]
def hC : List Tk := [kw wChan, kw wOf, kw wTimer]
def hV : List Vr := [⟨[112, 117, 116], [1]⟩, ⟨[115, 116, 111, 112], []⟩]
theorem hT_may : mayT hT = true := by decide
theorem hT_tok : tokensT hT = (hL, 0) := by decide
theorem hL_front : frontR hL = (hT, 6, 0) := by decide +kernel
theorem hC_front : frontR hC = (t0, 0, 90) := by decide +kernel
theorem hV_may : mayP true hV = true := by decide +kernel
theorem hV_find : findR true hV [115, 116, 111, 112] = ([], 1, true) := by decide +kernel
theorem hT_words : wordsT hT = 3 := by decide
theorem h65 : mayT ⟨1, 65, 0, []⟩ = false := by decide
theorem okt_h : OKt hT := by unfold OKt hT maxLen; decide
theorem okt_65 : OKt ⟨1, 65, 0, []⟩ := by unfold OKt maxLen; decide
theorem okl_hL : OKL hL := by
  intro x hx
  simp only [hL, List.mem_cons, List.not_mem_nil, or_false] at hx
  rcases hx with rfl | rfl | rfl | rfl | rfl | rfl
  all_goals (unfold OKx maxLen; decide)
theorem okl_hC : OKL hC := by
  intro x hx
  simp only [hC, List.mem_cons, List.not_mem_nil, or_false] at hx
  rcases hx with rfl | rfl | rfl
  all_goals (unfold OKx maxLen; decide)
/-- The two variants, as they are built. -/
theorem vnr_two {X : World} {q0 q1 : Nat} (h0 : BoxS X q0 22 #[.int .u8 1]) (h1 : BoxS X q1 49 #[.string ⟨#[112, 117, 116]⟩, .slice (some ⟨q0, 0, none⟩) 1 1, .string ⟨#[115, 116, 111, 112]⟩, .slice none 0 0]) : VnR X (some ⟨q1, 0, none⟩) 2 hV := by
  refine ⟨by decide, by unfold maxLen; decide, ?_, fun j hj => ⟨_, rfl, ?_⟩⟩
  · intro v hv
    simp only [hV, List.mem_cons, List.not_mem_nil, or_false] at hv
    rcases hv with rfl | rfl
    all_goals (unfold maxLen; decide)
  · have hj2 : j < 2 := hj
    match j, hj2 with
    | 0, _ =>
      refine ⟨(h1.cell 0).trans rfl, some ⟨q0, 0, none⟩, 1, (h1.cell 1).trans rfl, ⟨by decide, by unfold maxLen; decide, ?_, fun i hi => ⟨_, rfl, ?_⟩⟩⟩
      · intro k hk
        rw [List.mem_singleton.1 hk]; decide
      · obtain rfl : i = 0 := by have : i < 1 := hi; omega
        exact (h0.cell 0).trans rfl
    | 1, _ => exact ⟨(h1.cell 2).trans rfl, none, 0, (h1.cell 3).trans rfl, KR.nil X⟩
/-- What is known at the law's last line. -/
def HdS (w X : World) (A : Option Addr) (c b4 q1 b10 : Nat) : Prop := Below w.heap.size w X ∧ BoxS X w.heap.size 24 #[.int .u8 4, .int .i64 3, .int .u8 2, .string ⟨#[]⟩] ∧ RR X A c hL ∧ BoxS X b4 24 #[.int .u8 4, .int .i64 3, .int .u8 2, .string ⟨#[]⟩] ∧ VnR X (some ⟨q1, 0, none⟩) 2 hV ∧ BoxS X b10 52 #[.bool true, .slice (some ⟨q1, 0, none⟩) 2 2]
theorem HdS.step {w X Y : World} {A : Option Addr} {c b4 q1 b10 : Nat} (h : HdS w X A c b4 q1 b10) (b : Below X.heap.size X Y) : HdS w Y A c b4 q1 b10 := by
  obtain ⟨h1, h2, h3, h4, h5, h6⟩ := h
  exact ⟨blw h1 b, h2.below b, h3.keep b, h4.below b, h5.keep b, h6.below b⟩
theorem HdS.bel {w X : World} {A : Option Addr} {c b4 q1 b10 : Nat} (h : HdS w X A c b4 q1 b10) : Below w.heap.size w X := h.1
theorem HdS.var {w X : World} {A : Option Addr} {c b4 q1 b10 : Nat} (h : HdS w X A c b4 q1 b10) : VnR X (some ⟨q1, 0, none⟩) 2 hV := h.2.2.2.2.1
theorem built (X : World) (a : Obj) : BoxS ((((X.alloc a).alloc (.cells #[.int .u8 1] 22)).alloc (.cells #[.string ⟨#[112, 117, 116]⟩, .slice (some ⟨X.heap.size + 1, 0, none⟩) 1 1, .string ⟨#[115, 116, 111, 112]⟩, .slice none 0 0] 49)).alloc (.cells #[.bool true, .slice (some ⟨X.heap.size + 2, 0, none⟩) 2 2] 52)) (X.heap.size + 1) 22 #[.int .u8 1]
    ∧ BoxS ((((X.alloc a).alloc (.cells #[.int .u8 1] 22)).alloc (.cells #[.string ⟨#[112, 117, 116]⟩, .slice (some ⟨X.heap.size + 1, 0, none⟩) 1 1, .string ⟨#[115, 116, 111, 112]⟩, .slice none 0 0] 49)).alloc (.cells #[.bool true, .slice (some ⟨X.heap.size + 2, 0, none⟩) 2 2] 52)) (X.heap.size + 2) 49 #[.string ⟨#[112, 117, 116]⟩, .slice (some ⟨X.heap.size + 1, 0, none⟩) 1 1, .string ⟨#[115, 116, 111, 112]⟩, .slice none 0 0]
    ∧ BoxS ((((X.alloc a).alloc (.cells #[.int .u8 1] 22)).alloc (.cells #[.string ⟨#[112, 117, 116]⟩, .slice (some ⟨X.heap.size + 1, 0, none⟩) 1 1, .string ⟨#[115, 116, 111, 112]⟩, .slice none 0 0] 49)).alloc (.cells #[.bool true, .slice (some ⟨X.heap.size + 2, 0, none⟩) 2 2] 52)) (X.heap.size + 3) 52 #[.bool true, .slice (some ⟨X.heap.size + 2, 0, none⟩) 2 2] := by
  have e1 : (X.alloc a).heap.size = X.heap.size + 1 := World.size_alloc ..
  have e2 : ((X.alloc a).alloc (.cells #[.int .u8 1] 22)).heap.size = X.heap.size + 2 := by rw [World.size_alloc, e1]
  have e3 : (((X.alloc a).alloc (.cells #[.int .u8 1] 22)).alloc (.cells #[.string ⟨#[112, 117, 116]⟩, .slice (some ⟨X.heap.size + 1, 0, none⟩) 1 1, .string ⟨#[115, 116, 111, 112]⟩, .slice none 0 0] 49)).heap.size = X.heap.size + 3 := by rw [World.size_alloc, e2]
  have h1 := boxS_new (X.alloc a) 22 #[.int .u8 1]
  have h2 := boxS_new ((X.alloc a).alloc (.cells #[.int .u8 1] 22)) 49 #[.string ⟨#[112, 117, 116]⟩, .slice (some ⟨X.heap.size + 1, 0, none⟩) 1 1, .string ⟨#[115, 116, 111, 112]⟩, .slice none 0 0]
  have h3 := boxS_new (((X.alloc a).alloc (.cells #[.int .u8 1] 22)).alloc (.cells #[.string ⟨#[112, 117, 116]⟩, .slice (some ⟨X.heap.size + 1, 0, none⟩) 1 1, .string ⟨#[115, 116, 111, 112]⟩, .slice none 0 0] 49)) 52 #[.bool true, .slice (some ⟨X.heap.size + 2, 0, none⟩) 2 2]
  rw [e1] at h1
  rw [e2] at h2
  rw [e3] at h3
  exact ⟨(h1.alloc _).alloc _, h2.alloc _, h3⟩
theorem HdS.cells {w X : World} {A : Option Addr} {c b4 q1 b10 : Nat} (h : HdS w X A c b4 q1 b10) : (X.cell? ⟨w.heap.size, 0, none⟩ = some (.int .u8 4) ∧ X.cell? ⟨w.heap.size, 1, none⟩ = some (.int .i64 3) ∧ X.cell? ⟨w.heap.size, 2, none⟩ = some (.int .u8 2) ∧ X.cell? ⟨w.heap.size, 3, none⟩ = some (.string ⟨#[]⟩)) ∧ (X.cell? ⟨b4, 0, none⟩ = some (.int .u8 4) ∧ X.cell? ⟨b4, 1, none⟩ = some (.int .i64 3) ∧ X.cell? ⟨b4, 2, none⟩ = some (.int .u8 2) ∧ X.cell? ⟨b4, 3, none⟩ = some (.string ⟨#[]⟩)) ∧ (X.cell? ⟨b10, 0, none⟩ = some (.bool true) ∧ X.cell? ⟨b10, 1, none⟩ = some (.slice (some ⟨q1, 0, none⟩) 2 2)) :=
  ⟨(box4 h.2.1).1, (box4 h.2.2.2.1).1, (h.2.2.2.2.2.cell 0).trans rfl, (h.2.2.2.2.2.cell 1).trans rfl⟩
theorem HdS.rows {w X : World} {A : Option Addr} {c b4 q1 b10 : Nat} (h : HdS w X A c b4 q1 b10) : ∃ ad, A = some ad ∧ X.cell? ⟨ad.block, ad.off + 4 + 3, none⟩ = some (.int .i32 3) ∧ X.cell? ⟨ad.block, ad.off + 20 + 2, none⟩ = some (.string ⟨#[66, 89, 84, 69]⟩) := by
  obtain ⟨ad, e, _, _, _, h1⟩ := h.2.2.1.rd 1 (by decide)
  obtain ⟨ad2, e2, _, _, h2, _⟩ := h.2.2.1.rd 5 (by decide)
  rw [e] at e2
  cases e2
  refine ⟨ad, e, ?_, ?_⟩
  · rw [show ad.add (1 * 4) = ⟨ad.block, ad.off + 4, none⟩ from add_succ_ ad 3] at h1
    exact h1
  · rw [show ad.add (5 * 4) = ⟨ad.block, ad.off + 20, none⟩ from add_succ_ ad 19] at h2
    exact h2
set_option maxRecDepth 100000 in
set_option maxHeartbeats 16000000 in
theorem head_any (w : World) (ht : T9 w) : Calls Tryz.prog 6 #[] w fun e w' => e = .returned (.bool true) ∧ Below w.heap.size w w' := by
  have HT := Lib.hid (fun (X : World) (b : Below w.heap.size w X) => ht.below b)
  have CT : Hid (∀ X : World, T9 X → Calls Tryz.prog 4 #[.agg #[.int .u8 4, .int .i64 3, .int .u8 2, .string ⟨#[]⟩]] X fun e w' => ∃ A c, e = .returned (.tuple #[.slice A 6 c, .int .i64 0]) ∧ RR w' A c hL ∧ Below X.heap.size X w') := Lib.hid fun X t9 => by
    have := PTok_any hT okt_h X t9
    unfold GivesTk at this
    rw [hT_tok] at this
    exact this.mono fun e w' ⟨A, c, h, o, b⟩ => ⟨A, c, h, o.rr okl_hL, b⟩
  have CF : Hid (∀ (X : World) (A : Option Addr) (c : Nat) (R : RR X A c hL), T9 X → Calls Tryz.prog 9 #[.slice A 6 c] X fun e w' => e = .returned (.tuple #[.agg #[.int .u8 4, .int .i64 3, .int .u8 2, .string ⟨#[]⟩], .int .i64 6, .int .i64 0]) ∧ Below X.heap.size X w') := Lib.hid fun X A c R t9 => by
    have := PFront_any R (m := 6) rfl t9
    unfold GivesFr at this
    rw [hL_front] at this
    exact this
  have CF2 : Hid (∀ (X : World), T9 X → Calls Tryz.prog 9 #[.slice (some ⟨X.heap.size, 0, none⟩) 3 3] (X.alloc (.cells #[.int .u8 2, .int .i64 0, .string ⟨#[67, 72, 65, 78]⟩, .int .i32 0, .int .u8 2, .int .i64 0, .string ⟨#[79, 70]⟩, .int .i32 0, .int .u8 2, .int .i64 0, .string ⟨#[84, 73, 77, 69, 82]⟩, .int .i32 0] 39)) fun e w' => e = .returned (.tuple #[.agg #[.int .u8 0, .int .i64 0, .int .u8 0, .string ⟨#[]⟩], .int .i64 0, .int .i64 90]) ∧ Below X.heap.size X w') := Lib.hid fun X t9 => by
    have := PFront_any (rr_new (w := X.alloc (.cells (rwCs hC).toArray 39)) (e := 39) okl_hC (by unfold maxLen; decide) (boxS_new X _ _)) (m := 3) rfl (t9.below (bal (b0 X) _))
    unfold GivesFr at this
    rw [hC_front] at this
    exact this.mono fun e w' h => ⟨h.1, blw (bal (b0 X) _) h.2⟩
  have CF3 : Hid (∀ (X : World), T9 X → Calls Tryz.prog 9 #[.slice (some ⟨X.heap.size + 1, 0, none⟩) 3 3] ((X.alloc (.cells #[.int .u8 4, .int .i64 3, .int .u8 2, .string ⟨#[]⟩] 24)).alloc (.cells #[.int .u8 2, .int .i64 0, .string ⟨#[67, 72, 65, 78]⟩, .int .i32 0, .int .u8 2, .int .i64 0, .string ⟨#[79, 70]⟩, .int .i32 0, .int .u8 2, .int .i64 0, .string ⟨#[84, 73, 77, 69, 82]⟩, .int .i32 0] 39)) fun e w' => e = .returned (.tuple #[.agg #[.int .u8 0, .int .i64 0, .int .u8 0, .string ⟨#[]⟩], .int .i64 0, .int .i64 90]) ∧ Below (X.alloc (.cells #[.int .u8 4, .int .i64 3, .int .u8 2, .string ⟨#[]⟩] 24)).heap.size (X.alloc (.cells #[.int .u8 4, .int .i64 3, .int .u8 2, .string ⟨#[]⟩] 24)) w') := Lib.hid fun X t9 => by
    have := CF2.out (X.alloc (.cells #[.int .u8 4, .int .i64 3, .int .u8 2, .string ⟨#[]⟩] 24)) (t9.below (bal (b0 X) _))
    rw [World.size_alloc] at this ⊢
    exact this
  clear CF2
  have CFi : Hid (∀ (X : World) (q1 : Nat) (V : VnR X (some ⟨q1, 0, none⟩) 2 hV), T9 X → Calls Tryz.prog 16 #[.agg #[.bool true, .slice (some ⟨q1, 0, none⟩) 2 2], .string ⟨#[115, 116, 111, 112]⟩] X fun e w' => ∃ B d, e = .returned (.tuple #[.slice B 0 d, .int .i64 1, .bool true]) ∧ Below X.heap.size X w') := Lib.hid fun X q1 V t9 => by
    have := PFind_any (c := true) V (n := 2) rfl [115, 116, 111, 112] t9
    unfold GivesFo at this
    rw [hV_find] at this
    exact this.mono fun e w' ⟨B, d, h, _, _, b⟩ => ⟨B, d, h, b⟩
  have CMP : Hid (∀ (X : World) (q1 : Nat) (V : VnR X (some ⟨q1, 0, none⟩) 2 hV), T9 X → Calls Tryz.prog 17 #[.agg #[.bool true, .slice (some ⟨q1, 0, none⟩) 2 2]] X fun e w' => e = .returned (.bool true) ∧ Below X.heap.size X w') := Lib.hid fun X q1 V t9 => by
    have := PMayP_any (c := true) V (n := 2) rfl t9
    rw [hV_may] at this
    exact this
  have CM1 : Hid (∀ X : World, T9 X → Calls Tryz.prog 5 #[.agg #[.int .u8 4, .int .i64 3, .int .u8 2, .string ⟨#[]⟩]] X fun e w' => e = .returned (.bool true) ∧ Below X.heap.size X w') := Lib.hid fun X t9 => by
    have := PMay_any hT okt_h X t9
    rw [hT_may] at this
    exact this
  have CM2 : Hid (∀ X : World, T9 X → Calls Tryz.prog 5 #[.agg #[.int .u8 1, .int .i64 65, .int .u8 0, .string ⟨#[]⟩]] X fun e w' => e = .returned (.bool false) ∧ Below X.heap.size X w') := Lib.hid fun X t9 => by
    have := PMay_any ⟨1, 65, 0, []⟩ okt_65 X t9
    rw [h65] at this
    exact this
  have CW : Hid (∀ X : World, T9 X → Calls Tryz.prog 18 #[.agg #[.int .u8 4, .int .i64 3, .int .u8 2, .string ⟨#[]⟩]] X fun e w' => e = .returned (.int .i64 3) ∧ Below X.heap.size X w') := Lib.hid fun X t9 => by
    have := PWords_any hT okt_h X t9
    rw [hT_words] at this
    exact this
  have CSz : Hid (∀ X : World, T9 X → Calls Tryz.prog 19 #[.int .u8 1] X fun e w' => e = .returned (.int .i64 4) ∧ Below X.heap.size X w') := Lib.hid fun X t9 => PSize_any 1 (by decide) X t9
  have CFt : Hid (∀ X : World, T9 X → Calls Tryz.prog 20 #[.int .u8 2, .int .i32 256] X fun e w' => e = .returned (.bool false) ∧ Below X.heap.size X w') := Lib.hid fun X t9 => PFits_any 2 256 X t9
  have H0 := Lib.hid (And.intro (bal (b0 w) (.cells #[.int .u8 4, .int .i64 3, .int .u8 2, .string ⟨#[]⟩] 24)) (boxS_new w 24 #[.int .u8 4, .int .i64 3, .int .u8 2, .string ⟨#[]⟩]))
  clear ht
  go_enter Tryz.func6, Tryz.ntmps6
  go_wp2_with (first
    | (go_at_call 4; (with_reducible refine (CT.out _ (HT.out _ H0.out.1)).mono ?_); rintro e v1 ⟨A, c, rfl, r, b⟩; have H1 := Lib.hid (And.intro (blw H0.out.1 b) (And.intro (H0.out.2.below b) r)); clear b r)
    | (go_at_call 9; (with_reducible refine (CF.out _ _ _ H1.out.2.2 (HT.out _ H1.out.1)).mono ?_); rintro e v2 ⟨rfl, b⟩; have H2 := Lib.hid (And.intro (blw H1.out.1 b) (And.intro (H1.out.2.1.below b) (H1.out.2.2.keep b))); clear b)
    | (go_at_call 9; (with_reducible refine (CF3.out _ (HT.out _ H2.out.1)).mono ?_); rintro e v3 ⟨rfl, b⟩; have H3 := Lib.hid (And.intro (blw (bal H2.out.1 _) b) (And.intro ((H2.out.2.1.alloc _).below b) (And.intro ((H2.out.2.2.keep (bal (b0 _) _)).keep b) ((boxS_new v2 24 #[.int .u8 4, .int .i64 3, .int .u8 2, .string ⟨#[]⟩]).below b)))); clear b; have HBt := Lib.hid (built v3 (.cells #[.int .u8 0, .int .i64 0, .int .u8 0, .string ⟨#[]⟩] 24)); have HBb := Lib.hid (bal (bal (bal (bal (b0 v3) (.cells #[.int .u8 0, .int .i64 0, .int .u8 0, .string ⟨#[]⟩] 24)) (.cells #[.int .u8 1] 22)) (.cells #[.string ⟨#[112, 117, 116]⟩, .slice (some ⟨v3.heap.size + 1, 0, none⟩) 1 1, .string ⟨#[115, 116, 111, 112]⟩, .slice none 0 0] 49)) (.cells #[.bool true, .slice (some ⟨v3.heap.size + 2, 0, none⟩) 2 2] 52)); have H4 := Lib.hid (show HdS w _ A c v2.heap.size (v3.heap.size + 2) (v3.heap.size + 3) from ⟨blw H3.out.1 HBb.out, H3.out.2.1.below HBb.out, H3.out.2.2.1.keep HBb.out, H3.out.2.2.2.below HBb.out, vnr_two HBt.out.1 HBt.out.2.1, HBt.out.2.2⟩))
    | (go_at_call 16; (with_reducible refine (CFi.out _ _ H4.out.var (HT.out _ H4.out.bel)).mono ?_); rintro e v4 ⟨B, d, rfl, b⟩; have H5 := Lib.hid (H4.out.step b); clear b; obtain ⟨⟨x0, x1, x2, x3⟩, ⟨y0, y1, y2, y3⟩, z0, z1⟩ := H5.out.cells; obtain ⟨ad, e9, r1, r2⟩ := H5.out.rows; cases e9)
    | (go_at_call 17; (with_reducible refine (CMP.out _ _ H5.out.var (HT.out _ H5.out.bel)).mono ?_); rintro e v5 ⟨rfl, b⟩; have H6 := Lib.hid (H5.out.step b); clear b; obtain ⟨⟨p0, p1, p2, p3⟩, _⟩ := H6.out.cells)
    | (go_at_call 5; (with_reducible refine (CM1.out _ (HT.out _ H6.out.bel)).mono ?_); rintro e v6 ⟨rfl, b⟩; have H7 := Lib.hid (H6.out.step b); clear b)
    | (go_at_call 5; (with_reducible refine (CM2.out _ (HT.out _ H7.out.bel)).mono ?_); rintro e v7 ⟨rfl, b⟩; have H8 := Lib.hid (H7.out.step b); clear b; obtain ⟨⟨q0, q1, q2, q3⟩, _⟩ := H8.out.cells)
    | (go_at_call 18; (with_reducible refine (CW.out _ (HT.out _ H8.out.bel)).mono ?_); rintro e v8 ⟨rfl, b⟩; have H9 := Lib.hid (H8.out.step b); clear b)
    | (go_at_call 19; (with_reducible refine (CSz.out _ (HT.out _ H9.out.bel)).mono ?_); rintro e v9 ⟨rfl, b⟩; have H10 := Lib.hid (H9.out.step b); clear b)
    | (go_at_call 20; (with_reducible refine (CFt.out _ (HT.out _ H10.out.bel)).mono ?_); rintro e v10 ⟨rfl, b⟩; have H11 := Lib.hid (H10.out.step b); clear b)
    | fail)
  go_ret
  exact ⟨rfl, H11.out.bel⟩
end Go.Proofs.YtbkbhlbfkfnljaaGreatDoor
/- TypesValues, TypesTokens, TypesFront: their walks. -/
set_option linter.unusedVariables false
set_option linter.unusedSimpArgs false
namespace Go.Proofs.YtbkbhlbfkfnljaaGreatDoor
open Go Go.RowKit L8 L9

def IsTk (w : World) (A : Option Addr) (len cap : Nat) : Prop := ∃ rs : List Tk, rs.length = len ∧ RR w A cap rs
def S9 (w X : World) : Prop := Below w.heap.size w X ∧ T9 X
theorem S9.step {w X Y : World} (h : S9 w X) (b : Below X.heap.size X Y) : S9 w Y := ⟨blw h.1 b, h.2.below b⟩
theorem S9.tab {w X : World} (h : S9 w X) : T9 X := h.2
theorem S9.bel {w X : World} (h : S9 w X) : Below w.heap.size w X := h.1
theorem u8_wf9 {a : Int} (h : (Lit.int .u8 a).wf = true) : 0 ≤ a ∧ a < 256 := by
  simp only [Lit.wf, IntKind.min, IntKind.max, IntKind.signed, IntKind.bits, Bool.and_eq_true, decide_eq_true_eq] at h
  simp at h
  omega
theorem okl_tokT {t : Ty} : OKL (tokensT t).1 := by
  unfold tokensT
  split
  · rename_i h
    exact fun x hx => may_okx9 (tok_may h x hx).1 (tok_may h x hx).2
  · exact OKL.nil
end Go.Proofs.YtbkbhlbfkfnljaaGreatDoor
