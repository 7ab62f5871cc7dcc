/- The program: the closure that decides on a space. -/
import Derived.Test.YtldnmdadlgjbgaaDoorPlh
import Derived.Test.YtldnmdadlgjbgaaDoorRlg
import Derived.Test.YtldnmdadlgjbgaaDoorPle
set_option linter.unusedVariables false
set_option linter.unusedSimpArgs false
namespace Go.Proofs.YtldnmdadlgjbgaaDoor
open Go Go.RowKit L8

/-- Whether there is a space between the token before and this one. -/
def spB (y x : Tk) : Bool := if y.k = 0 then false else !near y x
def bxT (x : Tk) : Array Value := #[.int .u8 (x.k : Int), .int .i64 x.a, .string (strOf x.tx), .int .i32 x.n]
theorem spacing_any (w : World) : Calls Tryd.prog 26 #[] w fun e w' => e = .returned (.func (.func 45) #[] #[.pointer (some ⟨w.heap.size, 0, none⟩)]) ∧ w' = w.alloc (.cells #[.int .u8 0, .int .i64 0, .string ⟨#[]⟩, .int .i32 0] 26) := by
  have hmf : ∀ (fn : Fn) (first cap : Array Value) (w : World), (Instr.makeFunc fn first cap).run Tryd.prog w = .ok (.func fn first cap) w := fun _ _ _ _ => rfl
  go_enter Tryd.func26, Tryd.ntmps26
  go_wp2
  go_ret
  exact ⟨rfl, rfl⟩
/-- The last token lies in the box. -/
theorem set4_g (w : World) (B : Nat) (a b c d : Value) : w.grownBy (set4 w B a b c d) (some B) :=
  g_trans (g_trans (g_trans (g_set w B 0 a) (g_set _ B 1 b)) (g_set _ B 2 c)) (g_set _ B 3 d)
/-- What is known in the closure: the last token's box, and the boxes of its own two tokens. -/
def Spk (w V : World) (B : Nat) (x y : Tk) : Prop := w.grownBy V (some B) ∧ BoxS V B 26 (bxT x) ∧ BoxS V w.heap.size 26 (bxT x) ∧ BoxS V (w.heap.size + 1) 26 (bxT y)
theorem Spk.new {w : World} {B : Nat} {x y : Tk} (h : BoxS w B 26 (bxT y)) : Spk w (((set4 w B (.int .u8 (x.k : Int)) (.int .i64 x.a) (.string (strOf x.tx)) (.int .i32 x.n)).alloc (.cells (bxT x) 26)).alloc (.cells (bxT y) 26)) B x y := by
  have h1 : BoxS (set4 w B (.int .u8 (x.k : Int)) (.int .i64 x.a) (.string (strOf x.tx)) (.int .i32 x.n)) B 26 (bxT x) := box4_all _ _ _ _ h
  have hs : (set4 w B (.int .u8 (x.k : Int)) (.int .i64 x.a) (.string (strOf x.tx)) (.int .i32 x.n)).heap.size = w.heap.size := by unfold set4; simp
  refine ⟨g_trans (g_trans (set4_g w B _ _ _ _) (World.grownBy_alloc _ _ _)) (World.grownBy_alloc _ _ _), BoxS.alloc (BoxS.alloc h1 _) _, ?_, ?_⟩
  · have := boxS_new (set4 w B (.int .u8 (x.k : Int)) (.int .i64 x.a) (.string (strOf x.tx)) (.int .i32 x.n)) 26 (bxT x)
    rw [hs] at this
    exact BoxS.alloc this _
  · have := boxS_new ((set4 w B (.int .u8 (x.k : Int)) (.int .i64 x.a) (.string (strOf x.tx)) (.int .i32 x.n)).alloc (.cells (bxT x) 26)) 26 (bxT y)
    rw [World.size_alloc, hs] at this
    exact this
theorem Spk.below {w V V' : World} {B : Nat} {x y : Tk} (h : Spk w V B x y) (k : Below V.heap.size V V') : Spk w V' B x y :=
  ⟨g_trans h.1 (g_any (g_of_below k) _), h.2.1.below k, h.2.2.1.below k, h.2.2.2.below k⟩
theorem Spk.x {w V : World} {B k : Nat} {a n : Int} {tx : Bs} {y : Tk} (h : Spk w V B ⟨k, a, tx, n⟩ y) : V.cell? ⟨w.heap.size, 0, none⟩ = some (.int .u8 (k : Int)) ∧ V.cell? ⟨w.heap.size, 1, none⟩ = some (.int .i64 a) ∧ V.cell? ⟨w.heap.size, 2, none⟩ = some (.string (strOf tx)) ∧ V.cell? ⟨w.heap.size, 3, none⟩ = some (.int .i32 n) := (box4 h.2.2.1).1
theorem Spk.y {w V : World} {B k : Nat} {a n : Int} {tx : Bs} {x : Tk} (h : Spk w V B x ⟨k, a, tx, n⟩) : V.cell? ⟨w.heap.size + 1, 0, none⟩ = some (.int .u8 (k : Int)) ∧ V.cell? ⟨w.heap.size + 1, 1, none⟩ = some (.int .i64 a) ∧ V.cell? ⟨w.heap.size + 1, 2, none⟩ = some (.string (strOf tx)) ∧ V.cell? ⟨w.heap.size + 1, 3, none⟩ = some (.int .i32 n) := (box4 h.2.2.2).1
theorem spB_0 {y x : Tk} (h : y.k = 0) : spB y x = false := by unfold spB; rw [if_pos h]
theorem spB_n {y x : Tk} (h : y.k ≠ 0) : spB y x = !((opens x && decide (y.k = 1)) || opens y || closes x) := by unfold spB near; rw [if_neg h]
set_option maxRecDepth 100000 in
set_option maxHeartbeats 16000000 in
theorem space_any (x y : Tk) (hx : OKx x) (hy : OKx y) {B : Nat} {w : World} (h : BoxS w B 26 (bxT y)) : Calls Tryd.prog 45 #[rwV x, .pointer (some ⟨B, 0, none⟩)] w fun e w' => e = .returned (.bool (spB y x)) ∧ BoxS w' B 26 (bxT x) ∧ w.grownBy w' (some B) := by
  have CA : Hid (∀ W : World, Calls Tryd.prog 46 #[rwV x, .string ⟨#[44, 59, 58, 41, 93]⟩] W fun e w' => e = .returned (.bool (closes x)) ∧ Below W.heap.size W w') := Lib.hid fun W => by
    have := isAmong_any x [44, 59, 58, 41, 93] hx W
    rwa [among_closes] at this
  have CB : Hid (∀ W : World, Calls Tryd.prog 46 #[rwV y, .string ⟨#[40, 91]⟩] W fun e w' => e = .returned (.bool (opens y)) ∧ Below W.heap.size W w') := Lib.hid fun W => by
    have := isAmong_any y [40, 91] hy W
    rwa [among_opens] at this
  have CC : Hid (∀ W : World, Calls Tryd.prog 46 #[rwV x, .string ⟨#[40, 91]⟩] W fun e w' => e = .returned (.bool (opens x)) ∧ Below W.heap.size W w') := Lib.hid fun W => by
    have := isAmong_any x [40, 91] hx W
    rwa [among_opens] at this
  have hB := h.lt
  obtain ⟨f0, f1, f2, f3⟩ := box4f h
  have HV := Lib.hid (Spk.new (x := x) h)
  unfold set4 bxT at HV
  obtain ⟨k, a, tx, n⟩ := x
  obtain ⟨k', a', tx', n'⟩ := y
  obtain ⟨⟨c0, c1, c2, c3⟩, _⟩ := box4 (show BoxS w B 26 #[.int .u8 (k' : Int), .int .i64 a', .string (strOf tx'), .int .i32 n'] from h)
  dsimp only [rwV] at *
  clear h hx hy
  by_cases h0 : k' = 0
  · have q0 : ((k' : Int) == 0) = true := by rw [h0]; rfl
    rw [spB_0 h0]
    clear h0 CA CB CC
    have HE := Lib.hid (fun V (H : Spk w V B ⟨k, a, tx, n⟩ ⟨k', a', tx', n'⟩) => And.intro H.2.1 H.1)
    generalize strOf tx = S at *
    generalize strOf tx' = S' at *
    go_enter Tryd.func45, Tryd.ntmps45
    go_wp2
    go_ret
    exact ⟨rfl, HE.out _ HV.out⟩
  · have q0 : ((k' : Int) == 0) = false := by simp [h0]
    have q1 : ((k' : Int) != 1) = !decide (k' = 1) := by by_cases h : k' = 1 <;> simp [h]; omega
    rw [spB_n (y := ⟨k', a', tx', n'⟩) h0]
    have HE := Lib.hid (fun V (H : Spk w V B ⟨k, a, tx, n⟩ ⟨k', a', tx', n'⟩) => And.intro H.2.1 H.1)
    have HX := Lib.hid (fun V (H : Spk w V B ⟨k, a, tx, n⟩ ⟨k', a', tx', n'⟩) => And.intro H.x H.y)
    dsimp only
    generalize opens ⟨k, a, tx, n⟩ = ox at *
    generalize opens ⟨k', a', tx', n'⟩ = oy at *
    generalize closes ⟨k, a, tx, n⟩ = cx at *
    generalize decide (k' = 1) = k1 at *
    clear h0
    generalize strOf tx = S at *
    generalize strOf tx' = S' at *
    cases cx <;> cases oy <;> cases k1 <;> cases ox
    all_goals
      go_enter Tryd.func45, Tryd.ntmps45
      go_wp2_with (first
        | (go_at_call 46; (with_reducible refine (CA.out _).mono ?_); rintro e v1 ⟨rfl, b1⟩; have H1 := Lib.hid (HV.out.below b1); clear b1; obtain ⟨⟨x0, x1, x2, x3⟩, ⟨y0, y1, y2, y3⟩⟩ := HX.out _ H1.out)
        | (go_at_call 46; (with_reducible refine (CB.out _).mono ?_); rintro e v2 ⟨rfl, b1⟩; have H2 := Lib.hid (H1.out.below b1); clear b1 x0 x1 x2 x3 y0 y1 y2 y3; obtain ⟨⟨x0, x1, x2, x3⟩, ⟨y0, y1, y2, y3⟩⟩ := HX.out _ H2.out)
        | (go_at_call 46; (with_reducible refine (CC.out _).mono ?_); rintro e v3 ⟨rfl, b1⟩; have H3 := Lib.hid (H2.out.below b1); clear b1 x0 x1 x2 x3 y0 y1 y2 y3))
      go_ret
      first
        | exact ⟨rfl, HE.out _ H3.out⟩
        | exact ⟨rfl, HE.out _ H2.out⟩
        | exact ⟨rfl, HE.out _ H1.out⟩
end Go.Proofs.YtldnmdadlgjbgaaDoor
