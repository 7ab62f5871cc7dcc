/- The reference: the fields that a kind has (all kinds). -/
import Derived.Lib.LaidTab
import Derived.Stop.LaidErr
import Derived.OpenShut
import Derived.Test.YtimbiobonigdmaaGreatDoorM03
import Derived.Test.YtimbiobonigdmaaGreatDoorM04
import Derived.Test.YtimbiobonigdmaaGreatDoorM05
import Derived.Test.YtimbiobonigdmaaGreatDoorM01
import Derived.Test.YtimbiobonigdmaaGreatDoorM02
set_option linter.unusedVariables false
set_option linter.unusedSimpArgs false
set_option linter.unusedVariables false
set_option linter.unusedSimpArgs false
namespace Go.Proofs.YtimbiobonigdmaaGreatDoor
open Go Go.RowKit L8 L10

theorem ROwn_any (e : Ex) (hok : OKe e) (A : Option Addr) (n c : Nat) (hn : e.l.length = n) (w : World) : Calls Tryz.prog 74 #[exV e A n c] w fun en w' => en = .returned (.bool (ownE e)) ∧ Below w.heap.size w w' := by
  by_cases h1 : e.k = 1
  · exact ROwn_1 e hok A n c hn w h1
  by_cases h2 : e.k = 2
  · exact ROwn_2 e hok A n c hn w h2
  by_cases h3 : e.k = 3
  · exact ROwn_3 e hok A n c hn w h3
  by_cases h4 : e.k = 4
  · exact ROwn_4 e hok A n c hn w h4
  by_cases h5 : e.k = 5
  · exact ROwn_5 e hok A n c hn w h5
  by_cases h6 : e.k = 6
  · exact ROwn_6 e hok A n c hn w h6
  by_cases h7 : e.k = 7
  · exact ROwn_7 e hok A n c hn w h7
  by_cases h8 : e.k = 8
  · exact ROwn_8 e hok A n c hn w h8
  by_cases h9 : e.k = 9
  · exact ROwn_9 e hok A n c hn w h9
  exact ROwn_x e hok A n c hn w h1 h2 h3 h4 h5 h6 h7 h8 h9
end Go.Proofs.YtimbiobonigdmaaGreatDoor
/- The reference: the room that is left, valid trees. -/
set_option linter.unusedVariables false
set_option linter.unusedSimpArgs false
namespace Go.Proofs.YtimbiobonigdmaaGreatDoor
open Go Go.RowKit L8 L10

theorem drop_one {l : List Ex} {j : Nat} (h : j < l.length) : l.drop j = l.getD j e0 :: l.drop (j + 1) := by
  rw [List.drop_eq_getElem_cons h]
  congr 1
  simp [h]
theorem room_rng (e : Ex) {i : Nat} {left : Int} (hi : i ≤ 32) (hl : 0 ≤ left) : -1 ≤ roomE e i left ∧ roomE e i left ≤ left := by
  rw [room_is e i left hi hl]
  split <;> omega
set_option maxRecDepth 100000 in
set_option maxHeartbeats 4000000 in
theorem RRoom_any : ∀ e : Ex, ∀ (A : Option Addr) (n c i : Nat) (left : Int) (w : World), TrR w A c e.l → e.l.length = n → OKe e → i ≤ 32 → 0 ≤ left → left ≤ 256 → Calls Tryz.prog 37 #[exV e A n c, .int .i64 (i : Int), .int .i64 left] w fun en w' => en = .returned (.int .i64 (roomE e i left)) ∧ Below w.heap.size w w' := by
  refine Ex.ind fun e ih A n c i left w R hn hok hi hl0 hl => ?_
  have HN := Lib.hid hn
  have hmx : n ≤ maxLen := by have := R.le; have := R.mx; omega
  unfold maxLen at hmx
  have HV := Lib.hid (XS.new (n := n) R)
  have CO := Lib.hid (fun (W : World) => ROwn_any e hok A n c hn W)
  have hi0 : (0 : Int) ≤ (i : Int) := by omega
  have hi32 : (i : Int) ≤ 32 := by omega
  have q32 : ((i : Int) == 32) = decide (i = 32) := nat_eq10 i 32
  have q0 : (left == 0) = decide (left = 0) := by by_cases h : left = 0 <;> simp [h]
  have hr := roomE_eq e i left
  have HBel := Lib.hid HV.out.bel
  have IH : Hid (i < 32 → ∀ j, j < n → ∀ (B : Option Addr) (m d : Nat) (lf : Int) (X : World), TrR X B d (e.l.getD j e0).l → (e.l.getD j e0).l.length = m → OKe (e.l.getD j e0) → 0 ≤ lf → lf ≤ 256 → Calls Tryz.prog 37 #[exV (e.l.getD j e0) B m d, .int .i64 ((i : Int) + 1), .int .i64 lf] X fun en w' => en = .returned (.int .i64 (roomE (e.l.getD j e0) (i + 1) lf)) ∧ Below X.heap.size X w') := Lib.hid fun h32 j hj B m d lf X R h ok h0 h1 => by
    have := ih _ (getD_memE (by omega)) B m d (i + 1) lf X R h ok (by omega) h0 h1
    rwa [show ((i + 1 : Nat) : Int) = (i : Int) + 1 by omega] at this
  clear R ih hok
  by_cases h32 : i = 32
  · rw [hr, if_pos (.inl h32)]
    rw [decide_eq_true h32] at q32
    clear IH CO hr q0 h32
    dsimp only [exV, exC] at *
    generalize strOf e.s = S at *
    go_enter Tryz.func37, Tryz.ntmps37
    go_wp2
    go_ret
    exact ⟨rfl, HBel.out⟩
  rw [decide_eq_false h32] at q32
  by_cases hz : left = 0
  · rw [hr, if_pos (.inr (.inl hz))]
    rw [decide_eq_true hz] at q0
    clear IH CO hr hz h32
    dsimp only [exV, exC] at *
    generalize strOf e.s = S at *
    go_enter Tryz.func37, Tryz.ntmps37
    go_wp2
    go_ret
    exact ⟨rfl, HBel.out⟩
  rw [decide_eq_false hz] at q0
  cases ho : ownE e with
  | false =>
    rw [hr, if_pos (.inr (.inr ho))]
    rw [ho] at CO
    clear IH hr hz h32 ho
    dsimp only [exV, exC] at *
    generalize strOf e.s = S at *
    go_enter Tryz.func37, Tryz.ntmps37
    go_wp2_with (go_at_call 74; (with_reducible refine (CO.out _).mono ?_); rintro en w2 ⟨rfl, b⟩; have H2 := Lib.hid (HV.out.step b); clear b)
    go_ret
    exact ⟨rfl, H2.out.bel⟩
  | true =>
    have hr2 : roomE e i left = roomL e.l (i + 1) (left - 1) := by rw [hr, if_neg (fun h => h.elim h32 fun h => h.elim hz fun h => by rw [ho] at h; cases h)]
    rw [ho] at CO
    have hi31 : (i : Int) < 32 := by omega
    have hl1 : 1 ≤ left := by omega
    have IH2 := Lib.hid (IH.out (by omega))
    have HS := Lib.hid (fun (j : Nat) (lf : Int) (h : j < n) => show roomL (e.l.drop j) (i + 1) lf = if roomE (e.l.getD j e0) (i + 1) lf < 0 then -1 else roomL (e.l.drop (j + 1)) (i + 1) (roomE (e.l.getD j e0) (i + 1) lf) by rw [drop_one (by omega), roomL])
    have HR := Lib.hid (fun (j : Nat) (lf : Int) (h : 0 ≤ lf) => room_rng (e.l.getD j e0) (i := i + 1) (left := lf) (by omega) h)
    have HEnd := Lib.hid (fun (lf : Int) => show roomL (e.l.drop n) (i + 1) lf = lf by rw [← HN.out, List.drop_length, roomL])
    have HF := Lib.hid hr2
    clear IH hr hr2 hz h32 ho hn
    generalize roomE e i left = F at *
    dsimp only [exV, exC] at *
    generalize hS : strOf e.s = S at *
    clear hS
    go_enter Tryz.func37, Tryz.ntmps37
    go_wp2_with (go_at_call 74; (with_reducible refine (CO.out _).mono ?_); rintro en w2 ⟨rfl, b⟩; have H2 := Lib.hid (HV.out.step b); clear b)
    go_loopw [2, 7] (fun z ι wr => ∃ (j : Nat) (lf : Int), j ≤ n ∧ z = .int .i64 lf ∧ ι = .int .i64 j ∧ 0 ≤ lf ∧ lf ≤ 255 ∧ F = roomL (e.l.drop j) (i + 1) lf ∧ Hid (XS w wr e A n c)) (fun _ ι _ => n - (intOf ι).toNat)
    case atStart => exact ⟨0, left - 1, Nat.zero_le _, rfl, rfl, by omega, by omega, HF.out, H2⟩
    case round =>
      obtain ⟨j, lf, hj, rfl, rfl, hf0, hf1, hF, H⟩ := hrel
      have hj0 : (0 : Int) ≤ (j : Int) := by omega
      obtain ⟨p0, p1, p2, p3, p4, p5⟩ := H.out.box
      clear p0 p1 p2 p3 p4
      by_cases hlt : (j : Int) < (n : Int)
      · obtain ⟨ad, rfl, B, m, d, hm, hok, Rc, x0, x1, x2, x3, x4, x5⟩ := H.out.tr.at (j := j) (by have := HN.out; omega)
        have C := Lib.hid (IH2.out j (by omega) B m d lf _ Rc hm hok hf0 (by omega))
        have h1 := HS.out j lf (by omega)
        have h2 := HR.out j lf hf0
        rw [h1] at hF
        clear Rc hm hok h1
        generalize roomE (e.l.getD j e0) (i + 1) lf = u at *
        generalize e.l.getD j e0 = y at *
        generalize strOf y.s = SY at *
        obtain ⟨u0, u1⟩ := h2
        by_cases hu : u < 0
        · rw [if_pos hu] at hF
          have HE := Lib.hid hF
          clear hF
          go_wp2_with (go_at_call 37; (with_reducible refine (C.out).mono ?_); rintro e1 w3 ⟨rfl, b⟩; have H3 := Lib.hid (H.out.step b); clear b)
          go_ret
          rw [HE.out]
          exact ⟨rfl, H3.out.bel⟩
        · rw [if_neg hu] at hF
          have HE := Lib.hid hF
          clear hF
          go_wp2_with (go_at_call 37; (with_reducible refine (C.out).mono ?_); rintro e1 w3 ⟨rfl, b⟩; have H3 := Lib.hid (H.out.step b); clear b)
          go_roundw
          case rel => exact ⟨j + 1, u, by omega, by go_num, by go_num, by omega, by omega, HE.out, H3⟩
          case measure => simp [intOf]; omega
      · obtain rfl : j = n := by omega
        have HE := Lib.hid (hF.trans (HEnd.out lf))
        clear hF
        go_wp2
        go_ret
        rw [HE.out]
        exact ⟨rfl, H.out.bel⟩
theorem RMayX_any (e : Ex) (A : Option Addr) (n c : Nat) (w : World) (R : TrR w A c e.l) (hn : e.l.length = n) (hok : OKe e) : Calls Tryz.prog 23 #[exV e A n c] w fun en w' => en = .returned (.bool (mayE e)) ∧ Below w.heap.size w w' := by
  have HV := Lib.hid (XS.new (n := n) R)
  have C : Hid (∀ X, XS w X e A n c → Calls Tryz.prog 37 #[exV e A n c, .int .i64 0, .int .i64 256] X fun en w' => en = .returned (.int .i64 (roomE e 0 256)) ∧ Below X.heap.size X w') := Lib.hid fun X h => RRoom_any e A n c 0 256 X h.tr hn hok (by omega) (by omega) (by omega)
  rw [room_may]
  clear R hn hok
  generalize roomE e 0 256 = u at *
  dsimp only [exV, exC] at *
  generalize strOf e.s = S at *
  by_cases h0 : 0 ≤ u
  all_goals
    simp only [h0, decide_true, decide_false]
    go_enter Tryz.func23, Tryz.ntmps23
    go_wp2_with (go_at_call 37; (with_reducible refine (C.out _ HV.out).mono ?_); rintro en w2 ⟨rfl, b⟩; have H2 := Lib.hid (HV.out.step b); clear b)
    go_ret
    first | exact ⟨rfl, H2.out.bel⟩ | exact ⟨ret_b (by simp; omega), H2.out.bel⟩ | exact ⟨ret_b (decide_eq_true (by omega)), H2.out.bel⟩ | exact ⟨ret_b (decide_eq_false (by omega)), H2.out.bel⟩
end Go.Proofs.YtimbiobonigdmaaGreatDoor
/- The program's tables. -/
set_option linter.unusedVariables false
set_option linter.unusedSimpArgs false
namespace Go.Proofs.YtimbiobonigdmaaGreatDoor
open Go Go.RowKit L8 L10

def fmC (r : Int × Int × Nat × Nat × Nat × Nat × Bool × Nat) : List Value := [.int .i32 r.1, .int .i32 r.2.1, .int .u8 (r.2.2.1 : Int), .int .u8 (r.2.2.2.1 : Int), .int .u8 (r.2.2.2.2.1 : Int), .int .u8 (r.2.2.2.2.2.1 : Int), .bool r.2.2.2.2.2.2.1, .int .i64 (r.2.2.2.2.2.2.2 : Int)]
/-- What the rows list of the program's own tables: here the forms alone. -/
structure T10 (w : World) : Prop where
  f : w.var? Tryz.prog "transputer/expr.forms" = some (fmT.flatMap fmC).toArray
theorem var_fr {n : String} {cs : Array Value} {w w' : World} {P : Nat → Prop} (h : w.var? Tryz.prog n = some cs) (g : Fr w w' P) (hP : ∀ k, P k → k < w.heap.size → ∃ cs' t' m', w.heap[k]? = some (.cells cs' t' m') ∧ cs'.size ≠ cs.size) : w'.var? Tryz.prog n = some cs := by
  unfold World.var? at *
  cases hg : Tryz.prog.globalNamed n with
  | none => simp [hg] at h
  | some q =>
    simp only [hg, Option.bind_some] at h ⊢
    have hlt : q < w.heap.size := by
      rcases Nat.lt_or_ge q w.heap.size with h' | h'
      · exact h'
      · rw [Array.getElem?_eq_none h'] at h; simp at h
    have hne : ¬ P q := fun hp => by
      obtain ⟨cs', t', m', e, hs⟩ := hP q hp hlt
      rw [e] at h
      simp only [Option.some.injEq] at h
      exact hs (by rw [h])
    rw [g.block q hlt hne]
    exact h
theorem T10.fr {w w' : World} {P : Nat → Prop} (h : T10 w) (g : Fr w w' P) (hP : ∀ k, P k → k < w.heap.size → ∃ cs' t' m', w.heap[k]? = some (.cells cs' t' m') ∧ (cs'.size = 1 ∨ cs'.size = 3)) : T10 w' := by
  have key : ∀ (n : String) (cs : Array Value), w.var? Tryz.prog n = some cs → (cs.size ≠ 1 ∧ cs.size ≠ 3) → w'.var? Tryz.prog n = some cs := fun n cs hv hs => var_fr hv g fun k hp hk => by
    obtain ⟨cs', t', m', e, h⟩ := hP k hp hk
    exact ⟨cs', t', m', e, by omega⟩
  exact ⟨key _ _ h.f (by decide)⟩
theorem T10.below {w X : World} (h : T10 w) (b : Below w.heap.size w X) : T10 X := h.fr (Fr.of b (fun _ => False)) (fun _ h => h.elim)
theorem T10.grow {w w' : World} {b : Nat} {t : TypeId} {cs : Array Value} (h : T10 w) (g : w.grownBy w' (some b)) (hb : BoxS w b t cs) (hs : cs.size = 1 ∨ cs.size = 3) : T10 w' :=
  h.fr (Fr.ofG g (P := fun k => k = b) fun k e => by injection e with e; exact e.symm) fun k e _ => ⟨cs, t, (0, 0), by rw [show k = b from e]; exact hb, hs⟩
theorem gF : Tryz.prog.globalNamed "transputer/expr.forms" = some 0 := by kernel_rfl
theorem fmC_at : ∀ (l : List (Int × Int × Nat × Nat × Nat × Nat × Bool × Nat)) (k j : Nat), k < l.length → j < 8 → (l.flatMap fmC)[k * 8 + j]? = (fmC (l.getD k (0, 0, 0, 0, 0, 0, false, 0)))[j]?
  | [], k, j, h, _ => by simp at h
  | x :: l, 0, j, _, hj => by
    rw [List.flatMap_cons, Nat.zero_mul, Nat.zero_add, List.getElem?_append_left (by show j < 8; exact hj)]
    rfl
  | x :: l, k + 1, j, h, hj => by
    have ih := fmC_at l k j (by simpa using h) hj
    rw [List.flatMap_cons, show (k + 1) * 8 + j = (fmC x).length + (k * 8 + j) by show _ = 8 + _; omega, List.getElem?_append_right (by omega), List.getD_cons_succ, ← ih]
    congr 1
    omega
theorem T10.form {w : World} (h : T10 w) {k : Nat} (hk : k < 10) : ∀ j, j < 8 → w.cell? ⟨0, k * 8 + j, none⟩ = (fmC (fm k))[j]? := fun j hj => by
  rw [World.var?_cell gF h.f, List.getElem?_toArray]
  exact fmC_at fmT k j hk hj
end Go.Proofs.YtimbiobonigdmaaGreatDoor
/- The program's way through a tree: its steps. -/
set_option linter.unusedVariables false
set_option linter.unusedSimpArgs false
namespace Go.Proofs.YtimbiobonigdmaaGreatDoor
open Go Go.RowKit L8 L10

/-! ### A tree's box that is written -/
def set6 (W : World) (B : Nat) (a b c d e f : Value) : World := (((((W.setCell ⟨B, 0, none⟩ a).setCell ⟨B, 1, none⟩ b).setCell ⟨B, 2, none⟩ c).setCell ⟨B, 3, none⟩ d).setCell ⟨B, 4, none⟩ e).setCell ⟨B, 5, none⟩ f
theorem boxset {W : World} {B : Nat} {t : TypeId} {cs : Array Value} (h : BoxS W B t cs) (j : Nat) (v : Value) : BoxS (W.setCell ⟨B, j, none⟩ v) B t (cs.setIfInBounds j v) := by
  obtain ⟨hlt, hk⟩ := Array.getElem?_eq_some_iff.1 (show W.heap[B]? = _ from h)
  show (W.heap.modify B _)[B]? = _
  rw [Array.getElem?_eq_getElem (by rw [Array.size_modify]; exact hlt), Array.getElem_modify_self, hk]
  rfl
theorem box6_all {W : World} {B : Nat} {t : TypeId} {a' b' c' d' e' f' : Value} (a b c d e f : Value) (h : BoxS W B t #[a', b', c', d', e', f']) : BoxS (set6 W B a b c d e f) B t #[a, b, c, d, e, f] := by
  have := boxset (boxset (boxset (boxset (boxset (boxset h 0 a) 1 b) 2 c) 3 d) 4 e) 5 f
  unfold set6
  simpa using this
theorem box6f {W : World} {B : Nat} {t : TypeId} {cs : Array Value} (h : BoxS W B t cs) : W.frozen? ⟨B, 0, none⟩ = false ∧ W.frozen? ⟨B, 1, none⟩ = false ∧ W.frozen? ⟨B, 2, none⟩ = false ∧ W.frozen? ⟨B, 3, none⟩ = false ∧ W.frozen? ⟨B, 4, none⟩ = false ∧ W.frozen? ⟨B, 5, none⟩ = false :=
  ⟨h.frozen 0, h.frozen 1, h.frozen 2, h.frozen 3, h.frozen 4, h.frozen 5⟩
theorem bset6 {n : Nat} {w W : World} (h : Below n w W) {B : Nat} (hB : n ≤ B) (a b c d e f : Value) : Below n w (set6 W B a b c d e f) := bset (bset (bset (bset (bset (bset h hB _) hB _) hB _) hB _) hB _) hB _
/-! ### push -/
set_option maxRecDepth 100000 in
set_option maxHeartbeats 4000000 in
theorem push_any {w : World} {B b n c m d : Nat} {N : Nat → Prop} {A D : Option Addr} {S : List Lt} (h : Wk w B b N A n c S) (l : List Ex) (R : TrN w N D d l) (hm : l.length = m) (hs : totS (ltL S) ≤ 1000000) :
    Calls Tryz.prog 109 #[.pointer (some ⟨b, 0, none⟩), .slice D m d] w fun en w' => en = .returned (.tuple #[]) ∧ WkR w w' B b N A (pushS (ltL S) l) := by
  have hmx : m ≤ maxLen := by have := R.le; have := R.mx; omega
  unfold maxLen at hmx
  have hn : n ≤ 1000000 := by have := len_tot h.nn; have := h.len; omega
  by_cases hl : l = []
  · have hm0 : m = 0 := by rw [← hm, hl]; rfl
    subst hm0
    have HR : Hid (WkR w w B b N A (pushS (ltL S) l)) := Lib.hid ⟨A, n, c, S, h, by unfold pushS; rw [if_pos hl], Fr.refl w _, Gr.refl w A⟩
    clear h R hm hs hl
    go_enter Tryz.func109, Tryz.ntmps109
    go_wp2
    go_end0
    exact ⟨rfl, HR.out⟩
  · have hm0 : (0 : Int) < (m : Int) := by
      have : m ≠ 0 := fun e => hl (List.eq_nil_of_length_eq_zero (by omega))
      omega
    have bX := bal (b0 w) (.cells #[.slice D m d] 25)
    have c0 : w.cell? ⟨b, 0, none⟩ = some (.slice A n c) := (h.box.cell 0).trans rfl
    have f0 := h.box.frozen 0
    have HO : Hid (OwnW (w.alloc (.cells #[.slice D m d] 25)) B A n c S) := Lib.hid (h.keep bX).own
    have HC : Hid ((w.alloc (.cells #[.slice D m d] 25)).cell? ⟨w.heap.size, 0, none⟩ = some (.slice D l.length d)) := Lib.hid (by rw [hm]; exact ((boxS_new w 25 #[.slice D m d]).cell 0).trans rfl)
    have HB : Hid (B ≤ (w.alloc (.cells #[.slice D m d] 25)).heap.size) := Lib.hid (by have := h.hB; have := h.box.lt; rw [World.size_alloc]; omega)
    have HF : Hid (∀ (Y : World) (A2 : Option Addr) (c2 : Nat), OwnW Y B A2 (n + 1) c2 (S ++ [⟨l, D, d⟩]) → (w.alloc (.cells #[.slice D m d] 25)).grownBy Y (Value.slice A n c).ownBlock → Gr (w.alloc (.cells #[.slice D m d] 25)) A A2 → WkR w (Y.setCell ⟨b, 0, none⟩ (.slice A2 (n + 1) c2)) B b N A (pushS (ltL S) l)) := Lib.hid fun Y A2 c2 o g gr => by
      unfold pushS
      rw [if_neg hl]
      exact h.push ⟨l, D, d⟩ R hl bX o g gr
    have HZ : Hid (∀ (Y : World), (w.alloc (.cells #[.slice D m d] 25)).grownBy Y (Value.slice A n c).ownBlock → Y.cell? ⟨b, 0, none⟩ = some (.slice A n c) ∧ Y.frozen? ⟨b, 0, none⟩ = false) := Lib.hid fun Y g => by
      have f : Fr (w.alloc (.cells #[.slice D m d] 25)) Y (fun k => ∃ ad, A = some ad ∧ ad.block = k) := Fr.ofG g fun k e => ob_some e
      have k := f.box (h.keep bX).box fun ⟨ad, e, q⟩ => (h.ne ad e).1 q
      exact ⟨(k.cell 0).trans rfl, k.frozen 0⟩
    clear h R hs bX
    go_enter Tryz.func109, Tryz.ntmps109
    go_wp2_with (at_builtin; (refine app_lt rfl (.tmp 11) (.tmp 13) rfl B n c A S ⟨l, D, d⟩ ⟨w.heap.size, 0, none⟩ rfl rfl HO.out HC.out (by omega) HB.out ?_; intro A2 c2 Y o g gr; have HQ := Lib.hid (HF.out Y A2 c2 o g gr); obtain ⟨z0, z1⟩ := HZ.out Y g; clear o g gr))
    go_end0
    exact ⟨rfl, HQ.out⟩
/-! ### next -/
theorem size_ex (W : World) : (sizeOf (Tryz.prog.elem 25)).run Tryz.prog W = .ok 6 W := by kernel_rfl
/-- l[1:] of a list that is not empty. -/
theorem tail_of {w : World} {N : Nat → Prop} {D : Option Addr} {d m : Nat} {x : Ex} {r : List Ex} (R : TrN w N D d (x :: r)) (hm : r.length = m) : ∃ D' : Option Addr, (∀ W : World, (Instr.slice 25 (.slice D (m + 1) d) (some (.int .i64 1)) none none).run Tryz.prog W = .ok (.slice D' m (d - 1)) W) ∧ TrN w N D' (d - 1) r := by
  obtain ⟨ad, rfl, _⟩ := R.at (j := 0) (by simp)
  have hle := R.le
  have hmx := R.mx
  rw [List.length_cons, hm] at hle
  refine ⟨if d = 1 then some ad else some (ad.add 6), fun W => ?_, ?_⟩
  · have := run_slice_l (P := Tryz.prog) W 25 (some ad) (m + 1) d (by kernel_rfl) .i64 ((1 : Nat) : Int) (by omega) (by omega)
    rw [show ((1 : Nat) : Int) = 1 from rfl, size_ex] at this
    rw [this]
    simp [Result.andThen, sliced]
  · by_cases e : d = 1
    · have hr : r = [] := List.eq_nil_of_length_eq_zero (by omega)
      rw [if_pos e, hr]
      exact TrN.empty _ (by omega)
    · rw [if_neg e]
      exact R.tail
theorem slice_pop (A : Addr) (n c : Nat) (hn : n ≤ c) (W : World) : (Instr.slice 129 (.slice (some A) (n + 1) c) none (some (.int .i64 (n : Int))) none).run Tryz.prog W = .ok (.slice (some A) n c) W := by
  have hz : (sizeOf (Tryz.prog.elem 129)).run Tryz.prog W = .ok 1 W := by kernel_rfl
  rw [run_slice_h (P := Tryz.prog) W 129 (some A) (n + 1) c (by kernel_rfl) .i64 (n : Int) (by omega) (by omega), hz]
  simp [Result.andThen, sliced, Addr.add]
/-- What next leaves of a stack that is not empty. -/
def NextR (w w' : World) (B b : Nat) (N : Nat → Prop) (A : Option Addr) (L : List (List Ex)) (x : Ex) (D : Option Addr) (d : Nat) : Prop := WkR w w' B b N A L ∧ TrN w' N D d x.l ∧ OKe x
theorem WkR.trans {w w1 w2 : World} {N : Nat → Prop} {B b : Nat} {A : Option Addr} {L L2 : List (List Ex)} (h : WkR w w1 B b N A L) (k : ∀ A1 n1 c1 S1, Wk w1 B b N A1 n1 c1 S1 → ltL S1 = L → WkR w1 w2 B b N A1 L2) : WkR w w2 B b N A L2 := by
  obtain ⟨A1, n1, c1, S1, h1, h2, h3, h4⟩ := h
  obtain ⟨A2, n2, c2, S2, g1, g2, g3, g4⟩ := k A1 n1 c1 S1 h1 h2
  exact ⟨A2, n2, c2, S2, g1, g2, fr_pb h3 h4 g3, h4.trans g4 h3.size⟩
theorem WkR.below {w w1 w2 : World} {N : Nat → Prop} {B b : Nat} {A : Option Addr} {L : List (List Ex)} (h : WkR w w1 B b N A L) (k : Below w1.heap.size w1 w2) : WkR w w2 B b N A L :=
  h.trans fun A1 n1 c1 S1 h1 h2 => ⟨A1, n1, c1, S1, h1.keep k, h2, Fr.of k _, Gr.refl _ _⟩
theorem WkR.pre {w w1 w2 : World} {N : Nat → Prop} {B b : Nat} {A : Option Addr} {L : List (List Ex)} (h : WkR w1 w2 B b N A L) (k : Below w.heap.size w w1) : WkR w w2 B b N A L := by
  obtain ⟨A1, n1, c1, S1, h1, h2, h3, h4⟩ := h
  exact ⟨A1, n1, c1, S1, h1, h2, (Fr.of k (Pb b A)).trans h3 (fun _ h => h) (fun _ _ h => h), fun ad e => (h4 ad e).imp id fun q => Nat.le_trans k.size q⟩
/-- A box that is no part of the walk's memory. -/
theorem WkR.box {w w1 : World} {N : Nat → Prop} {B b k : Nat} {A : Option Addr} {L : List (List Ex)} {t : TypeId} {cs : Array Value} (h : WkR w w1 B b N A L) (c : BoxS w k t cs) (hk : ¬ Pb b A k) : BoxS w1 k t cs := by
  obtain ⟨A1, n1, c1, S1, h1, h2, h3, h4⟩ := h
  exact h3.box c hk
theorem WkR.tr {w w1 : World} {N : Nat → Prop} {B b n c : Nat} {A D : Option Addr} {d : Nat} {L : List (List Ex)} {S : List Lt} {l : List Ex} (h : WkR w w1 B b N A L) (k : Wk w B b N A n c S) (R : TrN w N D d l) : TrN w1 N D d l := by
  obtain ⟨A1, n1, c1, S1, h1, h2, h3, h4⟩ := h
  exact R.fr h3 fun j _ hj p => p.elim (fun e => k.nb (by rw [← e]; exact hj)) fun ⟨ad, e, q⟩ => (k.ne ad e).2 (by rw [q]; exact hj)
set_option maxRecDepth 100000 in
set_option maxHeartbeats 4000000 in
theorem next_none {w : World} {B b n c : Nat} {N : Nat → Prop} {A : Option Addr} (h : Wk w B b N A n c []) :
    Calls Tryz.prog 104 #[.pointer (some ⟨b, 0, none⟩)] w fun en w' => en = .returned (.tuple #[exV e0 none 0 0, .bool false]) ∧ WkR w w' B b N A [] := by
  have hn : n = 0 := by have := h.len; exact this.symm
  subst hn
  rw [show exV e0 none 0 0 = .agg #[.int .u8 0, .int .u8 0, .int .u8 0, .int .i32 0, .string ⟨#[]⟩, .slice none 0 0] from rfl]
  have c0 : (w.alloc (.cells #[.int .u8 0, .int .u8 0, .int .u8 0, .int .i32 0, .string ⟨#[]⟩, .slice none 0 0] 27)).cell? ⟨b, 0, none⟩ = some (.slice A 0 c) := ((h.keep (bal (b0 w) _)).box.cell 0).trans rfl
  have hb := h.box.lt
  have HR : Hid (WkR w (w.alloc (.cells #[.int .u8 0, .int .u8 0, .int .u8 0, .int .i32 0, .string ⟨#[]⟩, .slice none 0 0] 27)) B b N A []) := Lib.hid ⟨A, 0, c, [], h.keep (bal (b0 w) _), rfl, Fr.of (bal (b0 w) _) _, Gr.refl _ _⟩
  clear h
  go_enter Tryz.func104, Tryz.ntmps104
  go_wp2
  refine bodyPost_ret (v := .tuple #[.agg #[.int .u8 0, .int .u8 0, .int .u8 0, .int .i32 0, .string ⟨#[]⟩, .slice none 0 0], .bool false]) (by simp [results, Tryz.results104, go_sem]) rfl ⟨rfl, HR.out⟩
theorem TrN.hd {w : World} {N : Nat → Prop} {A : Option Addr} {c : Nat} {x : Ex} {r : List Ex} (h : TrN w N A c (x :: r)) : ∃ ad, A = some ad ∧ OKe x ∧ ∃ B d, TrN w N B d x.l ∧ ExAt w ad x B d := by
  obtain ⟨ad, e, _, B, n, d, hl, ok, R, x0, x1, x2, x3, x4, x5⟩ := h.at (j := 0) (by simp)
  have e0 : ad.add (0 * 6) = ad := by unfold Addr.add; simp
  rw [e0] at x0 x1 x2 x3 x4 x5
  have ex : (x :: r).getD 0 L10.e0 = x := rfl
  rw [ex] at *
  subst hl
  exact ⟨ad, e, ok, B, d, R, x0, x1, x2, x3, x4, x5⟩
theorem own_ne_box {W : World} {B n c k : Nat} {A : Option Addr} {S : List Lt} {cs : Array Value} (h : OwnW W B A n c S) (b : BoxS W k 27 cs) : ∀ ad, A = some ad → ad.block ≠ k := by
  intro ad e q
  rcases h.2 with ⟨hv, _⟩ | ⟨g', cap, cur, hv, _, hh, _⟩
  · injection hv with hv1; rw [e] at hv1; cases hv1
  · injection hv with hv1
    rw [e] at hv1
    injection hv1 with hv1
    have hg : g' = k := by rw [← q, hv1]
    rw [hg] at hh
    have hb2 : W.heap[k]? = _ := b
    rw [hh] at hb2
    injection hb2 with hb2
    injection hb2 with _ hb3
    exact absurd hb3 (by decide)
theorem fr_set6 (W : World) (g : Nat) (a b c d e f : Value) : Fr W (set6 W g a b c d e f) (fun k => k = g) := by
  have key : ∀ (X : World) (j : Nat) (v : Value), Fr X (X.setCell ⟨g, j, none⟩ v) (fun k => k = g) := fun X j v =>
    ⟨rfl, rfl, rfl, by show _ ≤ (X.heap.modify g _).size; rw [Array.size_modify]; exact Nat.le_refl _, fun k hk hr => Below.heap_setCell X ⟨g, j, none⟩ v k (fun e => hr (by rw [show k = g from e]))⟩
  have tr : ∀ {X Y Z : World}, Fr X Y (fun k => k = g) → Fr Y Z (fun k => k = g) → Fr X Z (fun k => k = g) := fun h k => h.trans k (fun _ h => h) fun _ _ h => h
  unfold set6
  exact tr (tr (tr (tr (tr (key _ _ _) (key _ _ _)) (key _ _ _)) (key _ _ _)) (key _ _ _)) (key _ _ _)
/-- A world on the way through next. -/
def NxS (w W : World) (B b : Nat) (N : Nat → Prop) (A : Option Addr) (L : List (List Ex)) (D : Option Addr) (d : Nat) (x : Ex) (r : List Ex) (cs : Array Value) : Prop := WkR w W B b N A L ∧ TrN W N D d (x :: r) ∧ BoxS W w.heap.size 27 cs ∧ (¬ N w.heap.size ∧ b < w.heap.size ∧ ∀ ad, A = some ad → ad.block < w.heap.size)
theorem NxS.push {w W : World} {B b : Nat} {N : Nat → Prop} {A D D' : Option Addr} {L : List (List Ex)} {d d' m : Nat} {x : Ex} {r l : List Ex} {cs : Array Value} (h : NxS w W B b N A L D d x r cs) (R : TrN W N D' d' l) (hm : l.length = m) (hs : totS L ≤ 1000000) :
    Calls Tryz.prog 109 #[.pointer (some ⟨b, 0, none⟩), .slice D' m d'] W fun en W' => en = .returned (.tuple #[]) ∧ NxS w W' B b N A (pushS L l) D d x r cs := by
  obtain ⟨⟨A1, n1, c1, S1, h1, h2, h3, h4⟩, h5, h6, h7, h8, h9⟩ := h
  rw [← h2] at hs ⊢
  refine (push_any h1 l R hm hs).mono fun en W' ⟨e, g⟩ => ⟨e, ?_⟩
  have gp : ¬ Pb b A1 w.heap.size := fun p => p.elim (fun e => by omega) fun ⟨ad, e, q⟩ => own_ne_box h1.own h6 ad e q
  have ht : WkR w W' B b N A (pushS (ltL S1) l) := by
    obtain ⟨A2, n2, c2, S2, g1, g2, g3, g4⟩ := g
    exact ⟨A2, n2, c2, S2, g1, g2, fr_pb h3 h4 g3, h4.trans g4 h3.size⟩
  exact ⟨ht, g.tr h1 h5, g.box h6 gp, h7, h8, h9⟩
theorem NxS.fin {w W : World} {B b d e : Nat} {N : Nat → Prop} {A D C : Option Addr} {L : List (List Ex)} {x : Ex} {r : List Ex} {a' b' c' d' e' f' : Value} (h : NxS w W B b N A L D d x r #[a', b', c', d', e', f']) (R : TrN W N C e x.l) (v0 v1 v2 v3 v4 v5 : Value) :
    BoxS (set6 W w.heap.size v0 v1 v2 v3 v4 v5) w.heap.size 27 #[v0, v1, v2, v3, v4, v5] ∧ TrN (set6 W w.heap.size v0 v1 v2 v3 v4 v5) N C e x.l ∧ WkR w (set6 W w.heap.size v0 v1 v2 v3 v4 v5) B b N A L := by
  obtain ⟨⟨A1, n1, c1, S1, h1, h2, h3, h4⟩, h5, h6, h7, h8, h9⟩ := h
  have g := fr_set6 W w.heap.size v0 v1 v2 v3 v4 v5
  have hN : ∀ k, k < W.heap.size → N k → ¬ k = w.heap.size := fun k _ n e => h7 (by rw [← e]; exact n)
  exact ⟨box6_all _ _ _ _ _ _ h6, R.fr g hN, A1, n1, c1, S1, h1.fr g (by omega) (own_ne_box h1.own h6) hN, h2, h3.trans g (fun _ h => h) (fun k hk e => by omega), h4⟩
set_option maxRecDepth 100000 in
set_option maxHeartbeats 8000000 in
theorem next_some {w : World} {B b n c d : Nat} {N : Nat → Prop} {A D : Option Addr} {T : List Lt} {x : Ex} {r : List Ex} (h : Wk w B b N A n c (T ++ [⟨x :: r, D, d⟩])) (hs : totS (ltL (T ++ [⟨x :: r, D, d⟩])) ≤ 1000000) :
    Calls Tryz.prog 104 #[.pointer (some ⟨b, 0, none⟩)] w fun en w' => ∃ C e, en = .returned (.tuple #[exV x C x.l.length e, .bool true]) ∧ TrN w' N C e x.l ∧ OKe x ∧ WkR w w' B b N A (pushS (pushS (ltL T) r) x.l) := by
  obtain ⟨k, hk⟩ : ∃ k, T.length = k := ⟨_, rfl⟩
  have hn : n = k + 1 := by have := h.len; rw [List.length_append] at this; have : T.length + 1 = n := this; omega
  subst hn
  have hk2 : k ≤ 1000000 := by have := len_tot h.nn; rw [List.length_append] at this; omega
  obtain ⟨ad, rfl, hl⟩ := h.own.lastA
  obtain ⟨m, hm⟩ : ∃ m, r.length = m := ⟨_, rfl⟩
  obtain ⟨q, hq⟩ : ∃ q, x.l.length = q := ⟨_, rfl⟩
  have R : TrN w N D d (x :: r) := h.sub ⟨x :: r, D, d⟩ (List.mem_append_right _ (List.mem_singleton_self _))
  obtain ⟨D', hcut, R'⟩ := tail_of R hm
  obtain ⟨a2, rfl, ok, _⟩ := R.hd
  have hle : k ≤ c := by
    rcases h.own.2 with ⟨hv, _⟩ | ⟨g, cap, cur, hv, _, _, hnc, _⟩
    · cases hv
    · injection hv with _ _ h3; omega
  have hpop := slice_pop ad k c hle
  have hb := h.box.lt
  have ha : ad.block < w.heap.size := by have := g_lt hl; rwa [add_block] at this
  have hk0 : (0 : Int) ≤ (k : Int) := by omega
  have hm0 : (0 : Int) ≤ (m : Int) := by omega
  have hw1 : IntKind.i64.wrap ((k : Int) + 1 - 1) = (k : Int) := by rw [show (k : Int) + 1 - 1 = k by omega]; exact IntWalk.i64_in _ (by omega)
  have hkb : (k : Int) ≤ 1000000 := by omega
  have hlt : (k : Int) < (k : Int) + 1 := by omega
  have hm1 : (0 : Int) < (m : Int) + 1 := by omega
  have ht : totS (ltL T) + szL (x :: r) ≤ 1000000 := by
    have : totS (ltL (T ++ [⟨x :: r, some a2, d⟩])) = totS (ltL T ++ [x :: r]) := by simp [ltL]
    rw [this, totS_app, totS, totS] at hs
    exact hs
  have ht2 : szL (x :: r) = 1 + szL x.l + szL r := by rw [szL, szE_eq]
  have hsz : (w.setCell ⟨b, 0, none⟩ (.slice (some ad) k c)).heap.size = w.heap.size := by show (w.heap.modify b _).size = _; rw [Array.size_modify]
  have HW : Hid (NxS w ((w.setCell ⟨b, 0, none⟩ (.slice (some ad) k c)).alloc (.cells #[.int .u8 0, .int .u8 0, .int .u8 0, .int .i32 0, .string ⟨#[]⟩, .slice none 0 0] 27)) B b N (some ad) (ltL T) (some a2) d x r #[.int .u8 0, .int .u8 0, .int .u8 0, .int .i32 0, .string ⟨#[]⟩, .slice none 0 0] ∧ TrN ((w.setCell ⟨b, 0, none⟩ (.slice (some ad) k c)).alloc (.cells #[.int .u8 0, .int .u8 0, .int .u8 0, .int .i32 0, .string ⟨#[]⟩, .slice none 0 0] 27)) N D' (d - 1) r) := Lib.hid (by
    have hp := h.pop
    have bb := bal (b0 (w.setCell ⟨b, 0, none⟩ (.slice (some ad) k c))) (.cells #[.int .u8 0, .int .u8 0, .int .u8 0, .int .i32 0, .string ⟨#[]⟩, .slice none 0 0] 27)
    have hR : ∀ {E : Option Addr} {e : Nat} {l : List Ex}, TrN w N E e l → TrN (w.setCell ⟨b, 0, none⟩ (.slice (some ad) k c)) N E e l := fun R => R.fr (fr_set w b 0 _ (some ad)) fun j _ hj p => p.elim (fun e => h.nb (by rw [← e]; exact hj)) fun ⟨a0, e0, q0⟩ => (h.ne a0 e0).2 (by rw [q0]; exact hj)
    refine ⟨⟨⟨some ad, k, c, T, hp.keep bb, rfl, ?_, Gr.refl _ _⟩, (hR R).keep bb, ?_, fun hn => by have := h.hN _ hn; omega, hb, fun a0 e0 => by injection e0 with e0; rw [← e0]; exact ha⟩, (hR R').keep bb⟩
    · exact (fr_set w b 0 _ (some ad)).trans (Fr.of bb (fun _ => False)) (fun _ h => h) (fun _ _ h => h.elim)
    · have := boxS_new (w.setCell ⟨b, 0, none⟩ (.slice (some ad) k c)) 27 #[.int .u8 0, .int .u8 0, .int .u8 0, .int .i32 0, .string ⟨#[]⟩, .slice none 0 0]
      rwa [hsz] at this)
  have C1 := Lib.hid (HW.out.1.push HW.out.2 hm (by omega))
  have HC2 : Hid (∀ (W : World), NxS w W B b N (some ad) (pushS (ltL T) r) (some a2) d x r #[.int .u8 0, .int .u8 0, .int .u8 0, .int .i32 0, .string ⟨#[]⟩, .slice none 0 0] → ∃ C e, W.cell? ⟨a2.block, a2.off + 5, none⟩ = some (.slice C q e) ∧ Calls Tryz.prog 109 #[.pointer (some ⟨b, 0, none⟩), .slice C q e] W fun en W' => en = .returned (.tuple #[]) ∧ NxS w W' B b N (some ad) (pushS (pushS (ltL T) r) x.l) (some a2) d x r #[.int .u8 0, .int .u8 0, .int .u8 0, .int .i32 0, .string ⟨#[]⟩, .slice none 0 0]) := Lib.hid fun W H => by
    obtain ⟨a3, e3, _, C, e, RC, X⟩ := H.2.1.hd
    injection e3 with e3
    subst e3
    have X5 := X.2.2.2.2.2
    rw [hq] at X5
    exact ⟨C, e, X5, H.push RC hq (by rw [totS_push]; omega)⟩
  have HC3 : Hid (∀ (W : World), NxS w W B b N (some ad) (pushS (pushS (ltL T) r) x.l) (some a2) d x r #[.int .u8 0, .int .u8 0, .int .u8 0, .int .i32 0, .string ⟨#[]⟩, .slice none 0 0] → ∃ C e, (W.cell? a2 = some (.int .u8 (x.k : Int)) ∧ W.cell? ⟨a2.block, a2.off + 1, none⟩ = some (.int .u8 (x.o : Int)) ∧ W.cell? ⟨a2.block, a2.off + 2, none⟩ = some (.int .u8 (x.t : Int)) ∧ W.cell? ⟨a2.block, a2.off + 3, none⟩ = some (.int .i32 x.n)
      ∧ W.cell? ⟨a2.block, a2.off + 4, none⟩ = some (.string (strOf x.s)) ∧ W.cell? ⟨a2.block, a2.off + 5, none⟩ = some (.slice C q e)) ∧ (W.frozen? ⟨w.heap.size, 0, none⟩ = false ∧ W.frozen? ⟨w.heap.size, 1, none⟩ = false ∧ W.frozen? ⟨w.heap.size, 2, none⟩ = false ∧ W.frozen? ⟨w.heap.size, 3, none⟩ = false ∧ W.frozen? ⟨w.heap.size, 4, none⟩ = false ∧ W.frozen? ⟨w.heap.size, 5, none⟩ = false)
      ∧ (W.cell? ⟨w.heap.size, 0, none⟩ = some (.int .u8 0) ∧ W.cell? ⟨w.heap.size, 1, none⟩ = some (.int .u8 0) ∧ W.cell? ⟨w.heap.size, 2, none⟩ = some (.int .u8 0) ∧ W.cell? ⟨w.heap.size, 3, none⟩ = some (.int .i32 0) ∧ W.cell? ⟨w.heap.size, 4, none⟩ = some (.string ⟨#[]⟩) ∧ W.cell? ⟨w.heap.size, 5, none⟩ = some (.slice none 0 0))
      ∧ Hid (∀ X, X = set6 W w.heap.size (.int .u8 (x.k : Int)) (.int .u8 (x.o : Int)) (.int .u8 (x.t : Int)) (.int .i32 x.n) (.string (strOf x.s)) (.slice C q e) → BoxS X w.heap.size 27 #[.int .u8 (x.k : Int), .int .u8 (x.o : Int), .int .u8 (x.t : Int), .int .i32 x.n, .string (strOf x.s), .slice C q e] ∧ TrN X N C e x.l ∧ WkR w X B b N (some ad) (pushS (pushS (ltL T) r) x.l))) := Lib.hid fun W H => by
    obtain ⟨a3, e3, _, C, e, RC, X⟩ := H.2.1.hd
    injection e3 with e3
    subst e3
    obtain ⟨X0, X1, X2, X3, X4, X5⟩ := X
    rw [hq] at X5
    exact ⟨C, e, ⟨X0, X1, X2, X3, X4, X5⟩, box6f H.2.2.1, box6 H.2.2.1, Lib.hid fun X e => by subst e; exact H.fin RC _ _ _ _ _ _⟩
  have c0 : (w.alloc (.cells #[.int .u8 0, .int .u8 0, .int .u8 0, .int .i32 0, .string ⟨#[]⟩, .slice none 0 0] 27)).cell? ⟨b, 0, none⟩ = some (.slice (some ad) (k + 1) c) := ((h.keep (bal (b0 w) _)).box.cell 0).trans rfl
  have l0 : (w.alloc (.cells #[.int .u8 0, .int .u8 0, .int .u8 0, .int .i32 0, .string ⟨#[]⟩, .slice none 0 0] 27)).cell? (ad.add k) = some (.slice (some a2) (m + 1) d) := by
    have := (bal (b0 w) (.cells #[.int .u8 0, .int .u8 0, .int .u8 0, .int .i32 0, .string ⟨#[]⟩, .slice none 0 0] 27)).cell (p := ad.add k) (by rw [add_block]; exact ha)
    rw [this, hl]
    show some (Value.slice (some a2) (r.length + 1) d) = _
    rw [hm]
  have f0 : (w.alloc (.cells #[.int .u8 0, .int .u8 0, .int .u8 0, .int .i32 0, .string ⟨#[]⟩, .slice none 0 0] 27)).frozen? ⟨b, 0, none⟩ = false := (h.keep (bal (b0 w) _)).box.frozen 0
  have HK := Lib.hid (And.intro ok hq)
  clear h hl R R' ok hs ht ht2 hsz HW hm hq hk hk2
  dsimp only [exV]
  rw [HK.out.2]
  generalize strOf x.s = SX at *
  generalize x.k = xk at *
  generalize x.o = xo at *
  generalize x.t = xt at *
  generalize x.n = xn at *
  go_enter Tryz.func104, Tryz.ntmps104
  go_wp2_with (first
    | (go_at_call 109; (with_reducible refine (C1.out).mono ?_); clear C1; rintro e1 W3 ⟨rfl, H⟩; obtain ⟨C, ec, z5, K2⟩ := HC2.out W3 H; have C2 := Lib.hid K2; clear H K2 HC2 c0 l0 f0)
    | (go_at_call 109; (with_reducible refine (C2.out).mono ?_); clear C2 z5; rintro e1 W4 ⟨rfl, H⟩; obtain ⟨E, ee, ⟨z0, z1, z2, z3, z4, z5⟩, ⟨f0, f1, f2, f3, f4, f5⟩, ⟨g0, g1, g2, g3, g4, g5⟩, KF⟩ := HC3.out W4 H; clear H HC3))
  have KQ := Lib.hid (KF.out _ rfl)
  unfold set6 at KQ
  clear KF z0 z1 z2 z3 z4 z5 f0 f1 f2 f3 f4 f5 g0 g1 g2 g3 g4 g5
  generalize (((((W4.setCell ⟨w.heap.size, 0, none⟩ (.int .u8 (xk : Int))).setCell ⟨w.heap.size, 1, none⟩ (.int .u8 (xo : Int))).setCell ⟨w.heap.size, 2, none⟩ (.int .u8 (xt : Int))).setCell ⟨w.heap.size, 3, none⟩ (.int .i32 xn)).setCell ⟨w.heap.size, 4, none⟩ (.string SX)).setCell ⟨w.heap.size, 5, none⟩ (.slice E q ee) = X at *
  obtain ⟨y0, y1, y2, y3, y4, y5⟩ := box6 KQ.out.1
  refine bodyPost_ret (v := .tuple #[.agg #[.int .u8 (xk : Int), .int .u8 (xo : Int), .int .u8 (xt : Int), .int .i32 xn, .string SX, .slice E q ee], .bool true]) (by simp [results, Tryz.results104, go_sem, y0, y1, y2, y3, y4, y5]) rfl ⟨E, ee, rfl, KQ.out.2.1, HK.out.1, KQ.out.2.2⟩
end Go.Proofs.YtimbiobonigdmaaGreatDoor
/- The program: a way through a tree from its beginning; sizes. -/
set_option linter.unusedVariables false
set_option linter.unusedSimpArgs false
namespace Go.Proofs.YtimbiobonigdmaaGreatDoor
open Go Go.RowKit L8 L10

def N1 (B n k : Nat) : Prop := k < B ∨ k = n + 1
abbrev N0 (B : Nat) : Nat → Prop := N1 B B
/-- What walkOf makes. -/
def WkG (B0 : Nat) (w w' : World) (e : Ex) : Prop := Wk w' B0 (w.heap.size + 1 + 1 + 1) (N1 B0 w.heap.size) (some ⟨w.heap.size + 1 + 1, 0, none⟩) 1 1 [⟨[e], some ⟨w.heap.size + 1, 0, none⟩, 1⟩] ∧ Below w.heap.size w w' ∧ w'.heap.size = w.heap.size + 4
def WkI (w w' : World) (e : Ex) : Prop := WkG w.heap.size w w' e
set_option maxRecDepth 100000 in
theorem walkOf_gen (B0 : Nat) (e : Ex) (A : Option Addr) (n c : Nat) (w : World) (hB0 : B0 ≤ w.heap.size) (R : TrN w (fun k => k < B0) A c e.l) (hn : e.l.length = n) (ok : OKe e) : Calls Tryz.prog 103 #[exV e A n c] w fun en w' => en = .returned (.pointer (some ⟨w.heap.size + 1 + 1 + 1, 0, none⟩)) ∧ WkG B0 w w' e := by
  have HI : Hid (WkG B0 w ((((w.alloc (.cells (exC e A n c) 27)).alloc (.cells (exC e A n c) 27)).alloc (.cells #[.slice (some ⟨w.heap.size + 1, 0, none⟩) 1 1] 25)).alloc (.cells #[.slice (some ⟨w.heap.size + 1 + 1, 0, none⟩) 1 1] 131)) e) := Lib.hid (by
    generalize h1 : w.alloc (.cells (exC e A n c) 27) = w1
    have s1 : w1.heap.size = w.heap.size + 1 := by rw [← h1, World.size_alloc]
    have b1 : Below w.heap.size w w1 := by rw [← h1]; exact bal (b0 w) _
    generalize h2 : w1.alloc (.cells (exC e A n c) 27) = w2
    have s2 : w2.heap.size = w.heap.size + 1 + 1 := by rw [← h2, World.size_alloc, s1]
    have b2 : Below w1.heap.size w1 w2 := by rw [← h2]; exact bal (b0 w1) _
    have x2 : BoxS w2 (w.heap.size + 1) 27 (exC e A n c) := by rw [← h2, ← s1]; exact boxS_new w1 _ _
    generalize h3 : w2.alloc (.cells #[.slice (some ⟨w.heap.size + 1, 0, none⟩) 1 1] 25) = w3
    have s3 : w3.heap.size = w.heap.size + 1 + 1 + 1 := by rw [← h3, World.size_alloc, s2]
    have b3 : Below w2.heap.size w2 w3 := by rw [← h3]; exact bal (b0 w2) _
    have x3 : BoxS w3 (w.heap.size + 1 + 1) 25 #[.slice (some ⟨w.heap.size + 1, 0, none⟩) 1 1] := by rw [← h3, ← s2]; exact boxS_new w2 _ _
    generalize h4 : w3.alloc (.cells #[.slice (some ⟨w.heap.size + 1 + 1, 0, none⟩) 1 1] 131) = w4
    have s4 : w4.heap.size = w.heap.size + 4 := by rw [← h4, World.size_alloc, s3]
    have b4 : Below w3.heap.size w3 w4 := by rw [← h4]; exact bal (b0 w3) _
    have x4 : BoxS w4 (w.heap.size + 1 + 1 + 1) 131 #[.slice (some ⟨w.heap.size + 1 + 1, 0, none⟩) 1 1] := by rw [← h4, ← s3]; exact boxS_new w3 _ _
    have b : Below w.heap.size w w4 := blw (blw (blw b1 b2) b3) b4
    have y2 : BoxS w4 (w.heap.size + 1) 27 (exC e A n c) := (x2.below b3).below b4
    have y3 := x3.below b4
    refine ⟨⟨x4, ⟨rfl, .inr ⟨w.heap.size + 1 + 1, 1, _, rfl, by omega, y3, Nat.le_refl _, by unfold maxLen; decide, rfl, rfl⟩⟩, fun ad e => ?_, fun h => by rcases h with h | h <;> omega, by omega, fun k h => by rcases h with h | h <;> omega, fun x hx => ?_, fun x hx => ?_⟩, b, s4⟩
    · injection e with e
      subst e
      exact ⟨by show w.heap.size + 1 + 1 ≠ _; omega, fun h => h.elim (fun h => by have h2 : w.heap.size + 1 + 1 < B0 := h; omega) (fun h => by have h2 : w.heap.size + 1 + 1 = w.heap.size + 1 := h; omega)⟩
    · rw [List.mem_singleton.1 hx]
      subst hn
      have Q : TrN w4 (N1 B0 w.heap.size) A c e.l := (R.mono fun k _ hk => .inl hk).keep b
      refine .mk (fun _ => A) (fun _ => c) (Nat.le_refl _) (by show (1 : Nat) ≤ maxLen; unfold maxLen; decide) (fun j hj => ?_) (fun j hj => ⟨_, rfl, .inr rfl, ?_⟩) (fun j hj => ?_)
      all_goals obtain rfl : j = 0 := by have : j < 1 := hj; omega
      · exact ok
      · refine ⟨(y2.cell 0).trans rfl, (y2.cell 1).trans rfl, (y2.cell 2).trans rfl, (y2.cell 3).trans rfl, (y2.cell 4).trans rfl, (y2.cell 5).trans rfl⟩
      · exact Q
    · rw [List.mem_singleton.1 hx]
      simp)
  clear R ok hn
  dsimp only [exV, exC] at *
  generalize strOf e.s = S at *
  go_enter Tryz.func103, Tryz.ntmps103
  go_wp2
  go_ret
  exact ⟨rfl, HI.out⟩
theorem walkOf_any (e : Ex) (A : Option Addr) (n c : Nat) (w : World) (R : TrR w A c e.l) (hn : e.l.length = n) (ok : OKe e) : Calls Tryz.prog 103 #[exV e A n c] w fun en w' => en = .returned (.pointer (some ⟨w.heap.size + 1 + 1 + 1, 0, none⟩)) ∧ WkI w w' e :=
  walkOf_gen w.heap.size e A n c w (Nat.le_refl _) (R.toN fun k hk => hk) hn ok
/-! ### On the way -/
/-- w0: the world in which the way began; B: its size. -/
def St (w0 wr : World) (b : Nat) (N : Nat → Prop) (L : List (List Ex)) : Prop := ∃ A n c S, Wk wr w0.heap.size b N A n c S ∧ ltL S = L ∧ Below w0.heap.size w0 wr
theorem St.bel {w0 wr : World} {b : Nat} {N : Nat → Prop} {L : List (List Ex)} (h : St w0 wr b N L) : Below w0.heap.size w0 wr := by
  obtain ⟨A, n, c, S, _, _, h⟩ := h
  exact h
theorem St.below {w0 wr wx : World} {b : Nat} {N : Nat → Prop} {L : List (List Ex)} (h : St w0 wr b N L) (k : Below wr.heap.size wr wx) : St w0 wx b N L := by
  obtain ⟨A, n, c, S, h1, h2, h3⟩ := h
  exact ⟨A, n, c, S, h1.keep k, h2, blw h3 k⟩
theorem St.ways {w0 wr : World} {b : Nat} {N : Nat → Prop} {L : List (List Ex)} (h : St w0 wr b N L) : L = [] ∨ ∃ T x r, L = T ++ [x :: r] := by
  obtain ⟨A, n, c, S, h1, rfl, _⟩ := h
  rcases List.eq_nil_or_concat S with rfl | ⟨T, x, rfl⟩
  · exact .inl rfl
  · right
    have hx := h1.nn x (by simp)
    obtain ⟨l, A', c'⟩ := x
    cases l with
    | nil => exact absurd rfl hx
    | cons y r => exact ⟨ltL T, y, r, by simp [ltL]⟩
theorem own_ne_boxT {W : World} {B n c k : Nat} {A : Option Addr} {S : List Lt} {t : TypeId} {cs : Array Value} (h : OwnW W B A n c S) (b : BoxS W k t cs) (ht : t ≠ 25) : ∀ ad, A = some ad → ad.block ≠ k := by
  intro ad e q
  rcases h.2 with ⟨hv, _⟩ | ⟨g', cap, cur, hv, _, hh, _⟩
  · injection hv with hv1; rw [e] at hv1; cases hv1
  · injection hv with hv1
    rw [e] at hv1
    injection hv1 with hv1
    have hg : g' = k := by rw [← q, hv1]
    rw [hg] at hh
    have hb2 : W.heap[k]? = _ := b
    rw [hh] at hb2
    injection hb2 with hb2
    injection hb2 with _ hb3
    exact ht hb3.symm
/-- Boxes of other types stay. -/
def KpB (w w' : World) : Prop := ∀ p t cs, BoxS w p t cs → t ≠ 25 → t ≠ 131 → BoxS w' p t cs
theorem kpb {w w' : World} {N : Nat → Prop} {B b n c : Nat} {A : Option Addr} {S : List Lt} {L : List (List Ex)} (h : Wk w B b N A n c S) (k : WkR w w' B b N A L) : KpB w w' := fun p t cs hp h1 h2 => k.box hp fun q => q.elim (fun e => box_ne hp h.box h2 e) fun ⟨ad, e, q⟩ => own_ne_boxT h.own hp h1 ad e q
theorem St.of {w0 wr w' : World} {N : Nat → Prop} {b n c : Nat} {A : Option Addr} {S : List Lt} {L : List (List Ex)} (h : Wk wr w0.heap.size b N A n c S) (hb : Below w0.heap.size w0 wr) (k : WkR wr w' w0.heap.size b N A L) : St w0 w' b N L := by
  obtain ⟨A1, n1, c1, S1, h1, h2, h3, h4⟩ := k
  exact ⟨A1, n1, c1, S1, h1, h2, hb.trans (h3.below hb.size h.pb)⟩
theorem St.nextN {w0 wr : World} {b : Nat} {N : Nat → Prop} (h : St w0 wr b N []) : Calls Tryz.prog 104 #[.pointer (some ⟨b, 0, none⟩)] wr fun en w' => en = .returned (.tuple #[.agg #[.int .u8 0, .int .u8 0, .int .u8 0, .int .i32 0, .string ⟨#[]⟩, .slice none 0 0], .bool false]) ∧ St w0 w' b N [] ∧ KpB wr w' := by
  obtain ⟨A, n, c, S, h1, h2, h3⟩ := h
  obtain rfl : S = [] := List.map_eq_nil_iff.1 h2
  exact (next_none h1).mono fun en w' ⟨e, k⟩ => ⟨e, St.of h1 h3 k, kpb h1 k⟩
theorem St.nextS {w0 wr : World} {b : Nat} {N : Nat → Prop} {T : List (List Ex)} {x : Ex} {r : List Ex} (h : St w0 wr b N (T ++ [x :: r])) (hs : totS (T ++ [x :: r]) ≤ 1000000) : Calls Tryz.prog 104 #[.pointer (some ⟨b, 0, none⟩)] wr fun en w' => ∃ C e, en = .returned (.tuple #[.agg #[.int .u8 (x.k : Int), .int .u8 (x.o : Int), .int .u8 (x.t : Int), .int .i32 x.n, .string (strOf x.s), .slice C x.l.length e], .bool true]) ∧ TrN w' N C e x.l ∧ OKe x ∧ St w0 w' b N (pushS (pushS T r) x.l) ∧ KpB wr w' := by
  obtain ⟨A, n, c, S, h1, h2, h3⟩ := h
  obtain ⟨T', X, rfl, rfl, hX⟩ := List.map_eq_append_iff.1 h2
  obtain ⟨y, rfl, hy⟩ : ∃ y, X = [y] ∧ y.l = x :: r := by
    cases X with
    | nil => cases hX
    | cons y Y =>
      injection hX with h4 h5
      rw [List.map_eq_nil_iff] at h5
      exact ⟨y, by rw [h5], h4⟩
  obtain ⟨l, D, d⟩ := y
  dsimp only at hy
  subst hy
  refine (next_some h1 (by rw [show ltL (T' ++ [⟨x :: r, D, d⟩]) = ltL T' ++ [x :: r] from by simp [ltL]]; exact hs)).mono fun en w' ⟨C, e, he, R, ok, k⟩ => ⟨C, e, he, R, ok, St.of h1 h3 k, kpb h1 k⟩
theorem St.init {w w' : World} {e : Ex} (h : WkI w w' e) : St w w' (w.heap.size + 1 + 1 + 1) (N0 w.heap.size) ([] ++ [[e]]) := ⟨some ⟨w.heap.size + 1 + 1, 0, none⟩, 1, 1, [⟨[e], some ⟨w.heap.size + 1, 0, none⟩, 1⟩], h.1, rfl, h.2.1⟩
/-! ### Size -/
/-- q trees passed, one more in hand (ok), a box of a tree at P. -/
def SzS (w0 wr : World) (b : Nat) (N : Nat → Prop) (Z q P : Nat) (ok : Bool) (cs : Array Value) : Prop := ∃ L, St w0 wr b N L ∧ q + totS L + (if ok = true then 1 else 0) = Z ∧ (ok = false → L = []) ∧ BoxS wr P 27 cs
theorem SzS.new {w0 X : World} {b Z : Nat} {N : Nat → Prop} {L : List (List Ex)} (e : Ex) (C : Option Addr) (d : Nat) (h : St w0 X b N L) (hL : totS L + 1 = Z) :
    SzS w0 (X.alloc (.cells #[.int .u8 (e.k : Int), .int .u8 (e.o : Int), .int .u8 (e.t : Int), .int .i32 e.n, .string (strOf e.s), .slice C e.l.length d] 27)) b N Z 0 X.heap.size true #[.int .u8 (e.k : Int), .int .u8 (e.o : Int), .int .u8 (e.t : Int), .int .i32 e.n, .string (strOf e.s), .slice C e.l.length d] :=
  ⟨L, h.below (bal (b0 X) _), by simp; omega, (fun h => by cases h), boxS_new X _ _⟩
end Go.Proofs.YtimbiobonigdmaaGreatDoor
/- The reference: the names in a tree. -/
set_option linter.unusedVariables false
set_option linter.unusedSimpArgs false
namespace Go.Proofs.YtimbiobonigdmaaGreatDoor
open Go Go.RowKit L8 L10

theorem nm_len : ∀ e : Ex, (nmE e).length ≤ szE e := by
  refine Ex.ind fun e ih => ?_
  have key : ∀ l : List Ex, (∀ x ∈ l, (nmE x).length ≤ szE x) → (nmL l).length ≤ szL l := by
    intro l
    induction l with
    | nil => intro _; rw [nmL, szL]; simp
    | cons x r ihr =>
      intro h
      rw [nmL, szL, List.length_append]
      have := h x (List.mem_cons_self ..)
      have := ihr fun y hy => h y (List.mem_cons_of_mem _ hy)
      omega
  rw [nmE_eq, szE_eq, List.length_append]
  have := key e.l ih
  have : (ownNm e.k e.s).length ≤ 1 := by unfold ownNm; split <;> simp
  omega
theorem nmL_len (l : List Ex) : (nmL l).length ≤ szL l := by
  induction l with
  | nil => rw [nmL, szL]; simp
  | cons x r ih => rw [nmL, szL, List.length_append]; have := nm_len x; omega
theorem ownS_grow {w X Y : World} {B n c b : Nat} {A : Option Addr} {ss : List Bs} (h : OwnS X B A n c ss) (g : X.grownBy Y (Value.slice A n c).ownBlock) (hB : w.heap.size ≤ B) (hw : Below w.heap.size w X) : Below w.heap.size w Y := bgrow hw h hB g
theorem ownS_base {w : World} {B B' n c : Nat} {A : Option Addr} {ss : List Bs} (h : OwnS w B A n c ss) (hb : B' ≤ B) : OwnS w B' A n c ss := by
  refine ⟨h.1, ?_⟩
  rcases h.2 with hn | ⟨g, cap, cur, hv, hB, rest⟩
  · exact .inl hn
  · exact .inr ⟨g, cap, cur, hv, by omega, rest⟩
set_option maxRecDepth 100000 in
theorem run_strs_none {w : World} {base n c d : Nat} {A A' : Option Addr} {xs : List Bs} {ty : TypeId} (hown : OwnS w base A n c xs) : (Builtin.append_ #[41, 41] ty #[.slice A n c, .slice A' 0 d]).run Tryz.prog w = .ok (.slice A n c) w := by
  obtain ⟨i0, hi0, hz0, hz1, hz2⟩ := info_parts str_info
  rcases hown.2 with ⟨hv, h0⟩ | ⟨g, cap, cur, hv, _, _, hnc, _⟩
  · injection hv with h1 h2 h3
    subst h1; subst h3
    simp [Builtin.append_, run_underlying Tryz.underlying41, sizeOf, typeInfo, hi0, Builtin.lenOf, Builtin.firstCells, h0]
    rcases A' with _ | ad
    · simp
    · have hld := run_loadCells_list (P := Tryz.prog) w ad [] (by intro j u hj; simp at hj)
      simp only [List.length_nil] at hld
      simp [hld]
  · injection hv with h1 h2 h3
    subst h1; subst h3
    simp [Builtin.append_, run_underlying Tryz.underlying41, sizeOf, typeInfo, hi0, Builtin.lenOf, Builtin.firstCells, hnc, storeCells]
    rcases A' with _ | ad
    · simp [storeCells]
    · have hld := run_loadCells_list (P := Tryz.prog) w ad [] (by intro j u hj; simp at hj)
      simp only [List.length_nil] at hld
      simp [hld, storeCells]
/-- Strings, or none, appended to a row of the call's own. -/
theorem app_strs0 {w : World} {ops : Array Oper} {rest : List Oper} {o : Oper} {a : Act} {Q : Exit → Act → World → Prop} (hgd : o.guard = none) (s x : Operand)
    (ho : o.op = .call { callee := .builtin .append, args := #[s, x], argTypes := #[41, 41] }) (base n c m d l : Nat) (A A' : Option Addr) (xs ys : List Bs) (hs : a.eval s = .slice A n c) (hx : a.eval x = .slice A' m d)
    (hown : OwnS w base A n c xs) (hy : ys.length = m) (R : SS w A' d ys) (hl : n + m = l) (h63 : l ≤ 1000000) (hbase : base ≤ w.heap.size)
    (h : ∀ A2 c2 w', OwnS w' base A2 l c2 (xs ++ ys) → w.grownBy w' (Value.slice A n c).ownBlock → wpList Tryz.prog ops Q rest (a.put o.dst (.slice A2 l c2)) w') : wpList Tryz.prog ops Q (o :: rest) a w := by
  rcases Nat.eq_zero_or_pos m with hm0 | hm0
  · subst hl
    subst hm0
    obtain rfl : ys = [] := List.eq_nil_of_length_eq_zero hy
    refine wpList_plain hgd fun K hK => ?_
    unfold Oper.wp execOp
    simp only [ho, resolve, invoke, builtin, Sem.run_bind, Sem.run_pure, Result.andThen_ok, List.map_toArray, List.map_cons, List.map_nil, hs, hx, run_strs_none hown]
    exact hK _ _ (h A c w (by rw [List.append_nil]; exact hown) (World.grownBy.refl w _))
  · exact app_strs hgd s x ho base n c m d l A A' xs ys hs hx hown hy hm0 R hl h63 hbase h
/-- What is known in the loop: the tree's box, the row of names. -/
def NmS (w X : World) (e : Ex) (A : Option Addr) (n c : Nat) (B : Option Addr) (q d : Nat) (ss : List Bs) : Prop := XS w X e A n c ∧ OwnS X (w.heap.size + 1) B q d ss
theorem NmS.step {w X Y : World} {e : Ex} {A B : Option Addr} {n c q d : Nat} {ss : List Bs} (h : NmS w X e A n c B q d ss) (b : Below X.heap.size X Y) : NmS w Y e A n c B q d ss := ⟨h.1.step b, h.2.keep b⟩
theorem NmS.xs {w X : World} {e : Ex} {A B : Option Addr} {n c q d : Nat} {ss : List Bs} (h : NmS w X e A n c B q d ss) : XS w X e A n c := h.1
theorem NmS.own {w X : World} {e : Ex} {A B : Option Addr} {n c q d : Nat} {ss : List Bs} (h : NmS w X e A n c B q d ss) : OwnS X (w.heap.size + 1) B q d ss := h.2
theorem NmS.lt {w X : World} {e : Ex} {A B : Option Addr} {n c q d : Nat} {ss : List Bs} (h : NmS w X e A n c B q d ss) : w.heap.size + 1 ≤ X.heap.size := h.1.2.1.lt
theorem NmS.app {w X Y : World} {e : Ex} {A B B2 : Option Addr} {n c q d q2 d2 : Nat} {ss tt : List Bs} (h : NmS w X e A n c B q d ss) (hR : TrR w A c e.l) (o : OwnS Y (w.heap.size + 1) B2 q2 d2 (ss ++ tt)) (g : X.grownBy Y (Value.slice B q d).ownBlock) : NmS w Y e A n c B2 q2 d2 (ss ++ tt) := by
  have hb : Below (w.heap.size + 1) X Y := ⟨g.os, g.tape, g.output, g.size, fun k hk => g.block k (Nat.lt_of_lt_of_le hk h.lt) (fun e2 => by have := (h.2.lt k e2.symm).1; omega)⟩
  have hb2 : Below w.heap.size w Y := bgrow h.1.1 h.2 (by omega) g
  exact ⟨⟨hb2, (hb.block w.heap.size (by omega)).trans h.1.2.1, hR.keep hb2⟩, o⟩
end Go.Proofs.YtimbiobonigdmaaGreatDoor
