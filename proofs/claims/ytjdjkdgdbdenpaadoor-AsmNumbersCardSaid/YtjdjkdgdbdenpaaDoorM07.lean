/- The iterator over the rows of both tables. -/
import Derived.RangeFuncNested
import Derived.RangeFuncBound
import Derived.RangeFuncCalls
import Derived.RangeFuncLeaves
import Derived.Shelf.Abstract
import Derived.Shelf.RegionOpen
import Derived.OwnWalkIn
import Derived.TacticsInMore
import Derived.LoopNIn
import Derived.LoopIn
import Derived.Maps.AppendAt
import Derived.Test.YtjdjkdgdbdenpaaDoorM05
set_option linter.unusedVariables false
set_option linter.unusedSimpArgs false
namespace Go.Proofs.YtjdjkdgdbdenpaaDoor
open Go Go.RowKit Go.Shelf
attribute [local go_sem] Oper.semAt_some

theorem g_trans {a b c : World} {r : Option Nat} (h : a.grownBy b r) (k : b.grownBy c r) : a.grownBy c r :=
  ⟨k.os.trans h.os, k.tape.trans h.tape, k.output.trans h.output, Nat.le_trans h.size k.size, fun i hi hr => (k.block i (Nat.lt_of_lt_of_le hi h.size) hr).trans (h.block i hi hr)⟩
theorem g_of_below {a b : World} (h : Below a.heap.size a b) : a.grownBy b none := ⟨h.os, h.tape, h.output, h.size, fun k hk _ => h.block k hk⟩
theorem g_below0 {a b : World} (h : a.grownBy b none) : Below a.heap.size a b := ⟨h.os, h.tape, h.output, h.size, fun k hk => h.block k hk (by simp)⟩
theorem below_b {B : Nat} {w a b : World} (h : Below B w a) (hB : B ≤ a.heap.size) (g : Below a.heap.size a b) : Below B w b := h.trans (g.mono hB)

/-- What an element of the iterator is. -/
def encP (p : Int × Int) : Array Value := #[.agg #[.int .u8 p.1, .int .i32 p.2], .agg #[.string (strOf (nm p.1 p.2)), .int .i64 (tk p.1 p.2), .int .i64 (lv p.1 p.2)]]
/-- The instructions of the first k functions, and of the first k codes. -/
def upF (k : Nat) : List (Int × Int) := ((List.range k).map fun (i : Nat) => ((i : Int), (0 : Int))).filter fun p => ex p.1 p.2
def upO (k : Nat) : List (Int × Int) := ((List.range k).map fun (i : Nat) => ((15 : Int), (i : Int))).filter fun p => ex p.1 p.2
theorem insts_eq : insts = upF 15 ++ upO 90 := by unfold insts upF upO; rw [List.filter_append]
theorem upF_succ (k : Nat) : upF (k + 1) = upF k ++ (if ex (k : Int) 0 = true then [((k : Int), 0)] else []) := by
  unfold upF
  rw [List.range_succ, List.map_append, List.filter_append]
  congr 1
  by_cases h : ex (k : Int) 0 = true <;> simp [h]
theorem upO_succ (k : Nat) : upO (k + 1) = upO k ++ (if ex 15 (k : Int) = true then [(15, (k : Int))] else []) := by
  unfold upO
  rw [List.range_succ, List.map_append, List.filter_append]
  congr 1
  by_cases h : ex 15 (k : Int) = true <;> simp [h]
theorem upF_pre : ∀ (d k : Nat), upF k <+: upF (k + d)
  | 0, k => List.prefix_refl _
  | d + 1, k => (upF_pre d k).trans (by rw [← Nat.add_assoc, upF_succ]; exact List.prefix_append _ _)
theorem upO_pre : ∀ (d k : Nat), upO k <+: upO (k + d)
  | 0, k => List.prefix_refl _
  | d + 1, k => (upO_pre d k).trans (by rw [← Nat.add_assoc, upO_succ]; exact List.prefix_append _ _)
theorem upF_all {k : Nat} (h : k ≤ 15) : upF k <+: insts := by
  rw [insts_eq]
  have := upF_pre (15 - k) k
  rw [show k + (15 - k) = 15 by omega] at this
  exact this.trans (List.prefix_append _ _)
theorem upO_all {k : Nat} (h : k ≤ 90) : upF 15 ++ upO k <+: insts := by
  rw [insts_eq]
  have := upO_pre (90 - k) k
  rw [show k + (90 - k) = 90 by omega] at this
  exact (List.prefix_append_right_inj _).2 this
theorem upF_next {k : Nat} (h : k < 15) (he : ex (k : Int) 0 = true) : upF k ++ [((k : Int), 0)] <+: insts ∧ (upF k).length < insts.length := by
  have h1 := upF_all (k := k + 1) (by omega)
  rw [upF_succ, if_pos he] at h1
  exact ⟨h1, by have := h1.length_le; simp at this; omega⟩
theorem upO_next {k : Nat} (h : k < 90) (he : ex 15 (k : Int) = true) : (upF 15 ++ upO k) ++ [(15, (k : Int))] <+: insts ∧ (upF 15 ++ upO k).length < insts.length := by
  have h1 := upO_all (k := k + 1) (by omega)
  rw [upO_succ, if_pos he, ← List.append_assoc] at h1
  exact ⟨h1, by have := h1.length_le; simp at this; simp; omega⟩

/-- What a round keeps: what lay ahead of the call, and every box but two. -/
def Kp2 (n₀ b1 b2 : Nat) (W W' : World) : Prop := Below n₀ W W' ∧ ∀ B t v, B ≠ b1 → B ≠ b2 → Boxed W B t v → Boxed W' B t v
theorem kp2_t {n₀ b1 b2 : Nat} {A B C : World} (h : Kp2 n₀ b1 b2 A B) (k : Kp2 n₀ b1 b2 B C) : Kp2 n₀ b1 b2 A C := ⟨h.1.trans k.1, fun X t v h1 h2 hv => k.2 X t v h1 h2 (h.2 X t v h1 h2 hv)⟩
/-- At the widest fence the depth is nothing that is asked. -/
theorem yield_depth {m k : Nat} {l : Nat} {args : Array Value} {W : World} {R : Ending → World → Prop} (h : YieldAt Fence.wide m Tryd.prog l args W R) : YieldAt Fence.wide k Tryd.prog l args W R := by
  obtain ⟨fn, tmps, assign, body, hy, hr⟩ := h
  exact ⟨fn, tmps, assign, body, hy, hr.1, fun c cs _ => hr.2 c cs (room_wide _)⟩
theorem row_in (m : Nat) {f a : Int} (hf : 0 ≤ f) (ha : isW a) {w : World} (hv : Vars w) (W : World) (b : Below w.heap.size w W) :
    CallsIn Fence.wide m Tryd.prog 58 #[.agg #[.int .u8 f, .int .i32 a]] W (RowIs f a W) := callsIn_wide.2 (row_at hf ha hv W b)
set_option maxRecDepth 100000 in
set_option maxHeartbeats 1000000 in
/-- The closure: a row that is there is handed on. -/
theorem prod_yes (m l By : Nat) {f a : Int} (hf : 0 ≤ f) (ha : isW a) (he : ex f a = true) {w W : World} (hv : Vars w) (hW : Below w.heap.size w W) (hB : Boxed W By 140 (.func (.yield l) #[] #[]))
    (R1 R2 : World → Prop)
    (hY : ∀ W1, Below W.heap.size W W1 → YieldAt Fence.wide m Tryd.prog l (encP (f, a)) W1 fun e W' => (e = .returned (.bool true) ∧ R1 W') ∨ (e = .returned (.bool false) ∧ R2 W')) :
    CallsIn Fence.wide (m + 1) Tryd.prog 85 #[.agg #[.int .u8 f, .int .i32 a], .pointer (some ⟨By, 0, none⟩)] W fun e W' => (e = .returned (.bool true) ∧ R1 W') ∨ (e = .returned (.bool false) ∧ R2 W') := by
  have C := Lib.hid (row_in m hf ha hv)
  have HW := Lib.hid hW
  have HB := Lib.hid hB
  have HY := Lib.hid hY
  have hlt := hB.lt
  unfold RowIs at C
  rw [he] at C
  clear hW hY hv he
  refine callsIn_of_wp Tryd.func85 rfl trivial ?_ rfl
  simp only [Tryd.ntmps85, List.size_toArray, List.length_cons, List.length_nil, Nat.reduceAdd, Nat.reduceSub, Array.replicate_succ, Array.replicate_zero, List.push_toArray, List.append_toArray, List.nil_append, List.cons_append]
  gi_wp2_with (refine ⟨trivial, ?_⟩; gi_at_call 58; refine (C.out _ (bal HW.out _)).mono ?_; rintro e w1 ⟨rfl, b1⟩; have B1 := Lib.hid (blw (bal (b0 W) _) b1); have c1 := (HB.out.kept (g_of_below B1.out) (by simp)).cell; have z1 : By < w1.heap.size := Nat.lt_of_lt_of_le HB.out.lt B1.out.size; obtain ⟨x0, x1, x2⟩ := box2 b1; clear b1; obtain ⟨fn, tmps, assign, body, hy, hR⟩ := HY.out _ (bal B1.out (.cells #[.string (strOf (nm f a)), .int .i64 (tk f a), .int .i64 (lv f a)] 110)); dsimp only [encP] at hy)
  refine hR.mono ?_
  rintro e6 W3 (⟨rfl, h3⟩ | ⟨rfl, h3⟩)
  all_goals
    clear hR hy
    gi_wp2
    go_ret
  · exact .inl ⟨rfl, h3⟩
  · exact .inr ⟨rfl, h3⟩
set_option maxRecDepth 100000 in
set_option maxHeartbeats 1000000 in
/-- The closure: what is no row is passed over. -/
theorem prod_no (m By : Nat) {f a : Int} (hf : 0 ≤ f) (ha : isW a) (he : ex f a = false) {w W : World} (hv : Vars w) (hW : Below w.heap.size w W) :
    CallsIn Fence.wide (m + 1) Tryd.prog 85 #[.agg #[.int .u8 f, .int .i32 a], .pointer (some ⟨By, 0, none⟩)] W fun e W' => e = .returned (.bool true) ∧ Below W.heap.size W W' := by
  refine callsIn_wide.2 ?_
  have C := Lib.hid (row_at hf ha hv)
  have HW := Lib.hid hW
  unfold RowIs at C
  rw [he] at C
  clear hW hv he
  go_enter Tryd.func85, Tryd.ntmps85
  go_wp2_with (go_at_call 58; refine (C.out _ (bal HW.out _)).mono ?_; rintro e w1 ⟨rfl, b1⟩; have B1 := Lib.hid (blw (bal (b0 W) _) b1); clear b1)
  go_ret
  exact ⟨rfl, bal B1.out _⟩
/-- What the loops keep. -/
def Lp (n₀ By l : Nat) (w : World) (J : List (Int × Int) → World → Prop) (pre : List (Int × Int)) (W : World) : Prop :=
  J pre W ∧ Below n₀ w W ∧ Boxed W By 140 (.func (.yield l) #[] #[])
theorem isW_nat {k : Nat} (h : k < 90) : isW (k : Int) := ⟨by omega, by omega⟩
/-- The closure, whatever the row is. -/
theorem prod_at (m l By b1 b2 : Nat) (h1 : By ≠ b1) (h2 : By ≠ b2) {f a : Int} (hf : 0 ≤ f) (ha : isW a) {w W : World} (hv : Vars w)
    (J Jx : List (Int × Int) → World → Prop) (hJ : ∀ s X Y, J s X → X.grownBy Y none → J s Y)
    (hY : ∀ pre p W, J pre W → pre.length < insts.length → YieldAt Fence.wide m Tryd.prog l (encP p) W fun e W' =>
      (e = .returned (.bool true) ∧ J (pre ++ [p]) W' ∧ Kp2 w.heap.size b1 b2 W W') ∨ (e = .returned (.bool false) ∧ Jx (pre ++ [p]) W'))
    (pre : List (Int × Int)) (hL : Lp w.heap.size By l w J pre W) (hn : ex f a = true → pre.length < insts.length) :
    CallsIn Fence.wide (m + 1) Tryd.prog 85 #[.agg #[.int .u8 f, .int .i32 a], .pointer (some ⟨By, 0, none⟩)] W fun e W' =>
      (e = .returned (.bool true) ∧ Lp w.heap.size By l w J (pre ++ (if ex f a = true then [(f, a)] else [])) W') ∨ (e = .returned (.bool false) ∧ ex f a = true ∧ Jx (pre ++ [(f, a)]) W') := by
  obtain ⟨hJ0, hB0, hX0⟩ := hL
  by_cases he : ex f a = true
  · rw [if_pos he]
    refine (prod_yes m l By hf ha he hv hB0 hX0 (Lp w.heap.size By l w J (pre ++ [(f, a)])) (fun W' => ex f a = true ∧ Jx (pre ++ [(f, a)]) W') ?_).mono fun _ _ h => h
    intro W1 g1
    have hB1 := below_b hB0 hB0.size g1
    refine (hY pre (f, a) W1 (hJ _ _ _ hJ0 (g_of_below g1)) (hn he)).mono fun e W' h => ?_
    rcases h with ⟨rfl, h3, h4⟩ | ⟨rfl, h3⟩
    · exact .inl ⟨rfl, h3, hB1.trans h4.1, h4.2 _ _ _ h1 h2 (hX0.kept (g_of_below g1) (by simp))⟩
    · exact .inr ⟨rfl, he, h3⟩
  · rw [if_neg he, List.append_nil]
    refine (prod_no m By hf ha (by simpa using he) hv hB0).mono fun e W' h => ?_
    obtain ⟨rfl, g1⟩ := h
    exact .inl ⟨rfl, hJ _ _ _ hJ0 (g_of_below g1), below_b hB0 hB0.size g1, hX0.kept (g_of_below g1) (by simp)⟩
set_option maxRecDepth 100000 in
set_option maxHeartbeats 4000000 in
theorem rows_in (m l b1 b2 : Nat) {w W : World} (hv : Vars w) (hW : Below w.heap.size w W) (h1 : b1 < W.heap.size) (h2 : b2 < W.heap.size)
    (J Jx : List (Int × Int) → World → Prop) (hJ : ∀ s X Y, J s X → X.grownBy Y none → J s Y)
    (hY : ∀ pre p W, J pre W → pre.length < insts.length → YieldAt Fence.wide m Tryd.prog l (encP p) W fun e W' =>
      (e = .returned (.bool true) ∧ J (pre ++ [p]) W' ∧ Kp2 w.heap.size b1 b2 W W') ∨ (e = .returned (.bool false) ∧ Jx (pre ++ [p]) W'))
    (h0 : J [] W) :
    CallsIn Fence.wide (m + 2) Tryd.prog 75 #[.func (.yield l) #[] #[]] W fun e W' => (∃ v, e = .returned v) ∧
      ((∃ ys, ys = insts ∧ J ys W') ∨ (∃ pre, pre <+: insts ∧ Jx pre W')) := by
  obtain ⟨Bx, hBx⟩ : ∃ Bx, W.heap.size = Bx := ⟨_, rfl⟩
  have HP := Lib.hid (fun (f a : Int) (hf : 0 ≤ f) (ha : isW a) (W1 : World) => prod_at m l Bx b1 b2 (by omega) (by omega) hf ha (W := W1) hv J Jx hJ hY)
  have HW := Lib.hid hW
  have H0 := Lib.hid h0
  have hb := Boxed.new W 140 (.func (.yield l) #[] #[])
  rw [hBx] at hb
  have HB := Lib.hid hb
  have HJ := Lib.hid hJ
  have HBx := Lib.hid hBx
  clear hW h0 hb hY hJ hv h1 h2 hBx
  refine callsIn_of_wp Tryd.func75 rfl trivial ?_ rfl
  simp only [Tryd.ntmps75, List.size_toArray, List.length_cons, List.length_nil, Nat.reduceAdd, Nat.reduceSub, Array.replicate_succ, Array.replicate_zero, List.push_toArray, List.append_toArray, List.nil_append, List.cons_append]
  gi_wp2
  simp only [HBx.out]
  gi_loopw [6] (fun i wr => ∃ (k : Nat), k ≤ 15 ∧ i = .int .u8 k ∧ Hid (Lp w.heap.size Bx l w J (upF k) wr)) (fun i _ => 15 - (intOf i).toNat)
  case atStart => exact ⟨0, Nat.zero_le _, rfl, ⟨HJ.out _ _ _ H0.out (World.grownBy_alloc W _ none), HW.out.alloc HW.out.size _, HB.out⟩⟩
  case round =>
    obtain ⟨k, hk, rfl, H⟩ := hrel
    by_cases hlt : k < 15
    · have t1 : decide ((k : Int) < 15) = true := by simp; omega
      have CP := Lib.hid (HP.out (k : Int) 0 (by omega) ⟨by omega, by omega⟩ wr (upF k) H.out (fun he => (upF_next hlt he).2))
      rw [← upF_succ] at CP
      have HN := Lib.hid (fun (he : ex (k : Int) 0 = true) => (upF_next hlt he).1)
      gi_wp2_with (refine ⟨trivial, ?_⟩; gi_at_call 85; refine CP.out.mono ?_; rintro e w1 (⟨rfl, h5⟩ | ⟨rfl, h5, h6⟩))
      · have H5 := Lib.hid h5
        clear h5
        gi_wp2
        go_roundw
        case rel => exact ⟨k + 1, by omega, by go_num, H5⟩
        case measure => simp [intOf]; omega
      · have H5 := Lib.hid (And.intro (HN.out h5) h6)
        clear h5 h6
        gi_wp2
        refine bodyPost_ret (results_none rfl _ _ _) rfl ?_
        exact ⟨⟨_, rfl⟩, .inr ⟨_, H5.out.1, H5.out.2⟩⟩
    · obtain rfl : k = 15 := by omega
      gi_wp2
      rw [show ((15 : Nat) : Int) = 15 from rfl]
      gi_loopw [15] (fun i wr => ∃ (k : Nat), k ≤ 90 ∧ i = .int .i32 k ∧ Hid (Lp w.heap.size Bx l w J (upF 15 ++ upO k) wr)) (fun i _ => 90 - (intOf i).toNat)
      case atStart => exact ⟨0, Nat.zero_le _, rfl, by rw [show upO 0 = [] from rfl, List.append_nil]; exact H⟩
      case round =>
        obtain ⟨k, hk, rfl, H⟩ := hrel
        by_cases hlt : k < 90
        · have t1 : decide ((k : Int) < 90) = true := by simp; omega
          have CP := Lib.hid (HP.out 15 (k : Int) (by omega) (isW_nat hlt) wr _ H.out (fun he => (upO_next hlt he).2))
          rw [List.append_assoc, ← upO_succ] at CP
          have HN := Lib.hid (fun (he : ex 15 (k : Int) = true) => (upO_next hlt he).1)
          gi_wp2_with (refine ⟨trivial, ?_⟩; gi_at_call 85; refine CP.out.mono ?_; rintro e w1 (⟨rfl, h5⟩ | ⟨rfl, h5, h6⟩))
          · have H5 := Lib.hid h5
            clear h5
            gi_wp2
            go_roundw
            case rel => exact ⟨k + 1, by omega, by go_num, H5⟩
            case measure => simp [intOf]; omega
          · have H5 := Lib.hid (And.intro (HN.out h5) h6)
            clear h5 h6
            gi_wp2
            refine bodyPost_ret (results_none rfl _ _ _) rfl ?_
            exact ⟨⟨_, rfl⟩, .inr ⟨_, H5.out.1, H5.out.2⟩⟩
        · obtain rfl : k = 90 := by omega
          gi_wp2
          go_end0
          exact ⟨⟨_, rfl⟩, .inl ⟨_, insts_eq.symm, H.out.1⟩⟩
end Go.Proofs.YtjdjkdgdbdenpaaDoor
