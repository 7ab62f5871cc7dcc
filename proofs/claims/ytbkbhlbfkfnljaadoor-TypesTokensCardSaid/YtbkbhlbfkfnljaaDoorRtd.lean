/- The reference: the tokens of a type. -/
import Derived.Test.YtbkbhlbfkfnljaaDoorRtc
import Derived.Deep.RegionLaw
set_option linter.unusedVariables false
set_option linter.unusedSimpArgs false
namespace Go.Proofs.YtbkbhlbfkfnljaaDoor
open Go Go.RowKit L8 L9

/-- An append of tokens in a region that draws its order. -/
theorem step_rws {X : World} {ops : Array Oper} {o : Oper} {a : Act} {K : Act → World → Prop} {Q : Exit → Act → World → Prop} {E : Prop} (hgd : o.guard = none) (s x : Operand)
    (ho : o.op = .call { callee := .builtin .append, args := #[s, x], argTypes := #[37, 37] }) (base n c m d l : Nat) (A A' : Option Addr) (xs ys : List Tk) (hs : a.eval s = .slice A n c) (hx : a.eval x = .slice A' m d)
    (hown : OwnR X 57 base A n c xs) (hy : ys.length = m) (hm : 0 < m) (R : RR X A' d ys) (hl : n + m = l) (h63 : l ≤ 1000000) (hbase : base ≤ X.heap.size)
    (h : ∀ A2 c2 w', OwnR w' 57 base A2 l c2 (xs ++ ys) → X.grownBy w' (Value.slice A n c).ownBlock → K (a.put o.dst (.slice A2 l c2)) w') :
    if Region.wanted o (yielded ops a.tmps) = true then Oper.wp Tryd.prog o a X K Q else E := by
  have hw : Region.wanted o (yielded ops a.tmps) = true := by simp [Region.wanted, hgd]
  rw [if_pos hw]
  subst hl
  obtain ⟨A2, c2, w', hr, h1, h2⟩ := run_rws (ty := o.type) hown hy hm R h63 hbase
  unfold Oper.wp execOp
  simp only [ho, resolve, invoke, builtin, Sem.run_bind, Sem.run_pure, Result.andThen_ok, List.map_toArray, List.map_cons, List.map_nil, hs, hx, hr]
  exact h A2 c2 w' h1 h2
/-- A world in which a type lies in a box, and a row of the call's own. -/
def TkS (w X : World) (t : Ty) (A : Option Addr) (n c : Nat) (l : List Tk) : Prop := Below w.heap.size w X ∧ BoxS X w.heap.size 24 (tyC t) ∧ OwnR X 57 (w.heap.size + 1) A n c l
theorem TkS.step {w X Y : World} {t : Ty} {A : Option Addr} {n c : Nat} {l : List Tk} (h : TkS w X t A n c l) (b : Below X.heap.size X Y) : TkS w Y t A n c l := ⟨blw h.1 b, h.2.1.below b, h.2.2.keep b⟩
theorem TkS.own {w X : World} {t : Ty} {A : Option Addr} {n c : Nat} {l : List Tk} (h : TkS w X t A n c l) : OwnR X 57 (w.heap.size + 1) A n c l := h.2.2
theorem TkS.bel {w X : World} {t : Ty} {A : Option Addr} {n c : Nat} {l : List Tk} (h : TkS w X t A n c l) : Below w.heap.size w X := h.1
theorem TkS.lt {w X : World} {t : Ty} {A : Option Addr} {n c : Nat} {l : List Tk} (h : TkS w X t A n c l) : w.heap.size + 1 ≤ X.heap.size := h.2.1.lt
theorem TkS.cells {w X : World} {t : Ty} {A : Option Addr} {n c : Nat} {l : List Tk} (h : TkS w X t A n c l) : X.cell? ⟨w.heap.size, 0, none⟩ = some (.int .u8 (t.k : Int)) ∧ X.cell? ⟨w.heap.size, 1, none⟩ = some (.int .i64 t.d) ∧ X.cell? ⟨w.heap.size, 2, none⟩ = some (.int .u8 (t.i : Int)) ∧ X.cell? ⟨w.heap.size, 3, none⟩ = some (.string (strOf t.p)) := (box4T h.2.1).1
theorem box_grow {w w' : World} {e : TypeId} {B n c b : Nat} {A : Option Addr} {rs : List Tk} {ty : TypeId} {cs : Array Value} (h : OwnR w e B A n c rs) (g : w.grownBy w' (Value.slice A n c).ownBlock) (hb : b < B) (R : BoxS w b ty cs) : BoxS w' b ty cs := by
  refine BoxS.kept R g ?_
  cases A with
  | none => simp [Value.ownBlock]
  | some ad =>
    have := (owned_ge h ad rfl).1
    simp [Value.ownBlock]
    omega
theorem TkS.app {w X Y : World} {t : Ty} {A A2 : Option Addr} {n c k c2 : Nat} {l m : List Tk} (h : TkS w X t A n c l) (o : OwnR Y 57 (w.heap.size + 1) A2 k c2 (l ++ m)) (g : X.grownBy Y (Value.slice A n c).ownBlock) : TkS w Y t A2 k c2 (l ++ m) :=
  ⟨bgrow h.1 h.2.2 (by omega) g, box_grow h.2.2 g (by omega) h.2.1, o⟩
/-- What Tokens gives. -/
def GivesTk (w : World) (r : List Tk × Int) (e : Ending) (w' : World) : Prop := ∃ A c, e = .returned (.tuple #[.slice A r.1.length c, .int .i64 r.2]) ∧ OwnR w' 57 w.heap.size A r.1.length c r.1 ∧ Below w.heap.size w w'
theorem TkS.gives {w X : World} {t : Ty} {A : Option Addr} {n c : Nat} {l : List Tk} (h : TkS w X t A n c l) (ht : mayT t = true) (hl : tokT t = l) (hn : l.length = n) : GivesTk w (tokensT t) (.returned (.tuple #[.slice A n c, .int .i64 0])) X := by
  unfold tokensT GivesTk
  rw [if_pos ht, hl]
  dsimp only
  rw [hn]
  exact ⟨A, c, rfl, h.2.2.base (by omega), h.1⟩
theorem okx_kw {s : Bs} (h : s.length ≤ maxLen) : OKx (kw s) := ⟨h, by show (2 : Nat) < 256; decide, by show (-2147483648 : Int) ≤ 0; decide, by show (0 : Int) ≤ 2147483647; decide⟩
theorem okx_nm {s : Bs} (h : s.length ≤ maxLen) : OKx (nm s) := ⟨h, by show (1 : Nat) < 256; decide, by show (-2147483648 : Int) ≤ 0; decide, by show (0 : Int) ≤ 2147483647; decide⟩
theorem okx_sy {s : Bs} (h : s.length ≤ maxLen) : OKx (sy s) := ⟨h, by show (5 : Nat) < 256; decide, by show (-2147483648 : Int) ≤ 0; decide, by show (0 : Int) ≤ 2147483647; decide⟩
theorem okx_nb {n : Int} (h : 0 ≤ n ∧ n ≤ 64) : OKx (nb n) := ⟨by unfold nb maxLen; simp, by show (3 : Nat) < 256; decide, by show (-2147483648 : Int) ≤ n; omega, by show n ≤ 2147483647; omega⟩
theorem wd_len (k : Nat) : (wd k).length ≤ maxLen := by unfold wd maxLen; split <;> (try split) <;> decide
theorem okl_dim {d : Int} (h : 0 ≤ d ∧ d ≤ 64) : OKL [sy [91], nb d, sy [93]] := by
  intro x hx
  simp only [List.mem_cons, List.not_mem_nil, or_false] at hx
  rcases hx with rfl | rfl | rfl
  · exact okx_sy (by unfold maxLen; decide)
  · exact okx_nb h
  · exact okx_sy (by unfold maxLen; decide)
theorem okl_two : OKL [kw wChan, kw wOf] := by
  intro x hx
  simp only [List.mem_cons, List.not_mem_nil, or_false] at hx
  rcases hx with rfl | rfl
  · exact okx_kw (by unfold maxLen; decide)
  · exact okx_kw (by unfold maxLen; decide)
theorem row_1 (x : Tk) (hx : OKx x) (W : World) : RR (W.alloc (.cells #[.int .u8 (x.k : Int), .int .i64 x.a, .string (strOf x.tx), .int .i32 x.n] 57)) (some ⟨W.heap.size, 0, none⟩) 1 [x] := rr_one hx (boxS_new W _ _)
theorem row_2 (W : World) : RR (W.alloc (.cells #[.int .u8 2, .int .i64 0, .string ⟨#[67, 72, 65, 78]⟩, .int .i32 0, .int .u8 2, .int .i64 0, .string ⟨#[79, 70]⟩, .int .i32 0] 57)) (some ⟨W.heap.size, 0, none⟩) 2 [kw wChan, kw wOf] :=
  rr_new (w := W.alloc (.cells (rwCs [kw wChan, kw wOf]).toArray 57)) (e := 57) okl_two (by unfold maxLen; decide) (boxS_new W _ _)
theorem row_3 {d : Int} (h : 0 ≤ d ∧ d ≤ 64) (W : World) : RR (W.alloc (.cells #[.int .u8 5, .int .i64 0, .string ⟨#[91]⟩, .int .i32 0, .int .u8 3, .int .i64 0, .string ⟨#[]⟩, .int .i32 d, .int .u8 5, .int .i64 0, .string ⟨#[93]⟩, .int .i32 0] 57)) (some ⟨W.heap.size, 0, none⟩) 3 [sy [91], nb d, sy [93]] :=
  rr_new (w := W.alloc (.cells (rwCs [sy [91], nb d, sy [93]]).toArray 57)) (e := 57) (okl_dim h) (by unfold maxLen; simp) (boxS_new W _ _)
theorem tok_5 {t : Ty} {l : List Tk} (hl : dimT t.d = l) (h : t.k = 5) : tokT t = l ++ [kw wTimer] := by unfold tokT coreT; rw [hl, if_pos h]
theorem tok_4 {t : Ty} {l : List Tk} (hl : dimT t.d = l) (h : t.k = 4) (hp : t.p = []) : tokT t = (l ++ [kw wChan, kw wOf]) ++ [kw (wd t.i)] := by unfold tokT coreT; rw [hl, if_neg (by omega), if_pos h, if_pos hp, List.append_assoc]; rfl
theorem tok_4n {t : Ty} {l : List Tk} (hl : dimT t.d = l) (h : t.k = 4) (hp : t.p ≠ []) : tokT t = (l ++ [kw wChan, kw wOf]) ++ [nm t.p] := by unfold tokT coreT; rw [hl, if_neg (by omega), if_pos h, if_neg hp, List.append_assoc]; rfl
theorem tok_o {t : Ty} {l : List Tk} (hl : dimT t.d = l) (h5 : t.k ≠ 5) (h4 : t.k ≠ 4) : tokT t = l ++ [kw (wd t.k)] := by unfold tokT coreT; rw [hl, if_neg h5, if_neg h4]
set_option maxRecDepth 100000 in
set_option maxHeartbeats 16000000 in
theorem RTok_any (t : Ty) (hx : OKt t) (w : World) : Calls Tryd.prog 19 #[tyV t] w (GivesTk w (tokensT t)) := by
  have CM := Lib.hid (fun (W : World) => RMayT_any t hx W)
  have CK := Lib.hid (fun (s : ByteArray) (W : World) => Rkey_any s W)
  have CS := Lib.hid (fun (s : ByteArray) (W : World) => Rsym_any s W)
  have CWk := Lib.hid (fun (W : World) => RWord_any t.k W)
  have CWi := Lib.hid (fun (W : World) => RWord_any t.i W)
  have HV : Hid (TkS w (w.alloc (.cells (tyC t) 24)) t none 0 0 []) := Lib.hid ⟨bal (b0 w) _, boxS_new w _ _, ownR_nil _ _ _⟩
  cases hm : mayT t with
  | false =>
    have HE := Lib.hid (show GivesTk w (tokensT t) = GivesTk w ([], 2) by unfold tokensT; rw [hm]; rfl)
    rw [hm] at CM
    rw [HE.out]
    clear HE hm CK CS CWk CWi hx
    obtain ⟨k, d, i, p⟩ := t
    dsimp only [tyV, tyC] at *
    generalize strOf p = S at *
    go_enter Tryd.func19, Tryd.ntmps19
    go_wp2_with (go_at_call 12; (with_reducible refine (CM.out _).mono ?_); rintro e w1 ⟨rfl, b⟩; have H1 := Lib.hid (HV.out.step b); clear b)
    go_ret2
    exact ⟨none, 0, rfl, ownR_nil _ _ _, H1.out.bel⟩
  | true =>
    have hd := (may_ways hm).1
    have HG := Lib.hid (fun (X : World) (A : Option Addr) (n c : Nat) (l : List Tk) (h : TkS w X t A n c l) (hl : tokT t = l) (hn : l.length = n) => h.gives hm hl hn)
    rw [hm] at CM
    clear hm
    have hp := hx.2.2.1
    clear hx
    have T5 := Lib.hid (fun (l : List Tk) (hl : dimT t.d = l) (h : t.k = 5) => tok_5 hl h)
    have T4 := Lib.hid (fun (l : List Tk) (hl : dimT t.d = l) (h : t.k = 4) (g : t.p = []) => tok_4 hl h g)
    have T4n := Lib.hid (fun (l : List Tk) (hl : dimT t.d = l) (h : t.k = 4) (g : t.p ≠ []) => tok_4n hl h g)
    have To := Lib.hid (fun (l : List Tk) (hl : dimT t.d = l) (h : t.k ≠ 5) (g : t.k ≠ 4) => tok_o hl h g)
    have q5 : ((t.k : Int) == 5) = decide (t.k = 5) := nat_eq t.k 5
    have q4 : ((t.k : Int) != 4) = !decide (t.k = 4) := int_nat_neq t.k 4
    have qp : (strOf t.p).toList.isEmpty = decide (t.p = []) := by rw [strOf_empty]; cases t.p <;> rfl
    have R3 := Lib.hid (fun (W : World) => row_3 hd W)
    have RN := Lib.hid (fun (W : World) => row_1 (nm t.p) (okx_nm hp) W)
    have RWk := Lib.hid (fun (W : World) => row_1 (kw (wd t.k)) (okx_kw (wd_len _)) W)
    have RWi := Lib.hid (fun (W : World) => row_1 (kw (wd t.i)) (okx_kw (wd_len _)) W)
    have RT := Lib.hid (fun (W : World) => row_1 (kw wTimer) (okx_kw (by unfold maxLen; decide)) W)
    obtain ⟨hd0, hd1⟩ := hd
    dsimp only [tyV, tyC] at *
    have CK5 := Lib.hid (CK.out ⟨#[84, 73, 77, 69, 82]⟩)
    have CK1 := Lib.hid (CK.out ⟨#[67, 72, 65, 78]⟩)
    have CK2 := Lib.hid (CK.out ⟨#[79, 70]⟩)
    have CS1 := Lib.hid (CS.out ⟨#[91]⟩)
    have CS2 := Lib.hid (CS.out ⟨#[93]⟩)
    clear CK CS
    by_cases hpos : 0 < t.d
    · have hdim := Lib.hid (dim_pos hpos)
      have qw : IntKind.i32.wrap t.d = t.d := IntWalk.i32_in _ (by omega)
      go_enter Tryd.func19, Tryd.ntmps19
      go_wp2_with (go_at_call 12; (with_reducible refine (CM.out _).mono ?_); rintro e w1 ⟨rfl, b⟩; have H1 := Lib.hid (HV.out.step b); obtain ⟨x0, x1, x2, x3⟩ := H1.out.cells; clear b)
      replace H1 := Lib.hid (show TkS w w1.drew t none 0 0 [] from H1.out.step (bdrew (b0 _) 1))
      obtain ⟨y0, y1, y2, y3⟩ := H1.out.cells
      go_region_law (first
        | (go_simp; go_at_call 41; (with_reducible refine (CS1.out _).mono ?_); rintro e u1 ⟨rfl, b⟩; have G1 := Lib.hid (H1.out.step b); obtain ⟨z0, z1, z2, z3⟩ := G1.out.cells; clear b)
        | (go_simp; go_at_call 41; (with_reducible refine (CS2.out _).mono ?_); rintro e u2 ⟨rfl, b⟩; have G2 := Lib.hid ((G1.out.step b).step (bal (b0 _) (.cells #[.int .u8 5, .int .i64 0, .string ⟨#[91]⟩, .int .i32 0, .int .u8 3, .int .i64 0, .string ⟨#[]⟩, .int .i32 t.d, .int .u8 5, .int .i64 0, .string ⟨#[93]⟩, .int .i32 0] 57))); obtain ⟨v0, v1, v2, v3⟩ := (G1.out.step b).cells; clear b)
        | (refine step_rws rfl (.tmp 11) (.tmp 18) rfl (w.heap.size + 1) 0 0 3 3 3 none (some ⟨u2.heap.size, 0, none⟩) [] [sy [91], nb t.d, sy [93]] rfl rfl G2.out.own rfl (by decide) (R3.out u2) rfl (by decide) G2.out.lt ?_; intro A3 c3 w4 o3 g3; have H0 := Lib.hid (G2.out.app o3 g3); obtain ⟨r0, r1, r2, r3⟩ := H0.out.cells; clear o3 g3))
      all_goals (
        by_cases h5 : t.k = 5
        · rw [decide_eq_true h5] at q5
          have HL := Lib.hid (T5.out _ hdim.out h5)
          clear T5 T4 T4n To CWk CWi RWk RWi RN hp qp q4 h5 hdim
          go_wp2_with (first
            | (go_at_call 42; (with_reducible refine (CK5.out _).mono ?_); rintro e w2 ⟨rfl, b⟩; have H2 := Lib.hid ((H0.out.step b).step (bal (b0 _) (.cells #[.int .u8 2, .int .i64 0, .string ⟨#[84, 73, 77, 69, 82]⟩, .int .i32 0] 57))); obtain ⟨e20, e21, e22, e23⟩ := (H0.out.step b).cells; clear b)
            | (at_builtin; (refine app_rws rfl (.tmp 23) (.tmp 25) rfl (w.heap.size + 1) 3 c3 1 1 4 A3 (some ⟨w2.heap.size, 0, none⟩) [sy [91], nb t.d, sy [93]] [kw wTimer] rfl rfl H2.out.own rfl (RT.out w2) rfl (by decide) H2.out.lt ?_; intro H3A H3c H3v o2 g2; have H3 := Lib.hid (H2.out.app o2 g2); obtain ⟨H30, H31, H32, H33⟩ := H3.out.cells; clear o2 g2)))
          go_ret2
          exact HG.out _ _ _ _ _ H3.out HL.out rfl
        rw [decide_eq_false h5] at q5
        by_cases h4 : t.k = 4
        · rw [decide_eq_true h4, Bool.not_true] at q4
          by_cases hnil : t.p = []
          · rw [decide_eq_true hnil] at qp
            have HL := Lib.hid (T4.out _ hdim.out h4 hnil)
            clear T5 T4 T4n To CWk RWk RN RT hp hnil h4 h5 hdim
            go_wp2_with (first
              | (go_at_call 42; (with_reducible refine (CK1.out _).mono ?_); rintro e w2 ⟨rfl, b⟩; have H2 := Lib.hid (H0.out.step b); obtain ⟨e20, e21, e22, e23⟩ := (H0.out.step b).cells; clear b)
              | (go_at_call 42; (with_reducible refine (CK2.out _).mono ?_); rintro e w3 ⟨rfl, b⟩; have H3 := Lib.hid ((H2.out.step b).step (bal (b0 _) (.cells #[.int .u8 2, .int .i64 0, .string ⟨#[67, 72, 65, 78]⟩, .int .i32 0, .int .u8 2, .int .i64 0, .string ⟨#[79, 70]⟩, .int .i32 0] 57))); obtain ⟨e30, e31, e32, e33⟩ := (H2.out.step b).cells; clear b)
              | (at_builtin; (refine app_rws rfl (.tmp 36) (.tmp 39) rfl (w.heap.size + 1) 3 c3 2 2 5 A3 (some ⟨w3.heap.size, 0, none⟩) [sy [91], nb t.d, sy [93]] [kw wChan, kw wOf] rfl rfl H3.out.own rfl (row_2 w3) rfl (by decide) H3.out.lt ?_; intro H4A H4c H4v o2 g2; have H4 := Lib.hid (H3.out.app o2 g2); obtain ⟨H40, H41, H42, H43⟩ := H4.out.cells; clear o2 g2))
              | (go_at_call 43; (with_reducible refine (CWi.out _).mono ?_); rintro e w5 ⟨rfl, b⟩; have H5 := Lib.hid ((H4.out.step b).step (bal (b0 _) (.cells #[.int .u8 2, .int .i64 0, .string (strOf (wd t.i)), .int .i32 0] 57))); obtain ⟨e50, e51, e52, e53⟩ := (H4.out.step b).cells; clear b)
              | (at_builtin; (refine app_rws rfl (.tmp 50) (.tmp 54) rfl (w.heap.size + 1) 5 H4c 1 1 6 H4A (some ⟨w5.heap.size, 0, none⟩) ([sy [91], nb t.d, sy [93]] ++ [kw wChan, kw wOf]) [kw (wd t.i)] rfl rfl H5.out.own rfl (RWi.out w5) rfl (by decide) H5.out.lt ?_; intro H6A H6c H6v o2 g2; have H6 := Lib.hid (H5.out.app o2 g2); obtain ⟨H60, H61, H62, H63⟩ := H6.out.cells; clear o2 g2)))
            go_ret2
            exact HG.out _ _ _ _ _ H6.out HL.out rfl
          · rw [decide_eq_false hnil] at qp
            have HL := Lib.hid (T4n.out _ hdim.out h4 hnil)
            clear T5 T4 T4n To CWk CWi RWk RWi RT hp hnil h4 h5 hdim
            go_wp2_with (first
              | (go_at_call 42; (with_reducible refine (CK1.out _).mono ?_); rintro e w2 ⟨rfl, b⟩; have H2 := Lib.hid (H0.out.step b); obtain ⟨e20, e21, e22, e23⟩ := (H0.out.step b).cells; clear b)
              | (go_at_call 42; (with_reducible refine (CK2.out _).mono ?_); rintro e w3 ⟨rfl, b⟩; have H3 := Lib.hid ((H2.out.step b).step (bal (b0 _) (.cells #[.int .u8 2, .int .i64 0, .string ⟨#[67, 72, 65, 78]⟩, .int .i32 0, .int .u8 2, .int .i64 0, .string ⟨#[79, 70]⟩, .int .i32 0] 57))); obtain ⟨e30, e31, e32, e33⟩ := (H2.out.step b).cells; clear b)
              | (at_builtin; (refine app_rws rfl (.tmp 36) (.tmp 39) rfl (w.heap.size + 1) 3 c3 2 2 5 A3 (some ⟨w3.heap.size, 0, none⟩) [sy [91], nb t.d, sy [93]] [kw wChan, kw wOf] rfl rfl H3.out.own rfl (row_2 w3) rfl (by decide) H3.out.lt ?_; intro H4A H4c H4v o2 g2; have H4 := Lib.hid (H3.out.app o2 g2); obtain ⟨H40, H41, H42, H43⟩ := H4.out.cells; have H5 := Lib.hid (H4.out.step (bal (b0 _) (.cells #[.int .u8 1, .int .i64 0, .string (strOf t.p), .int .i32 0] 57))); clear o2 g2))
              | (at_builtin; (refine app_rws rfl (.tmp 44) (.tmp 48) rfl (w.heap.size + 1) 5 H4c 1 1 6 H4A (some ⟨H4v.heap.size, 0, none⟩) ([sy [91], nb t.d, sy [93]] ++ [kw wChan, kw wOf]) [nm t.p] rfl rfl H5.out.own rfl (RN.out H4v) rfl (by decide) H5.out.lt ?_; intro H6A H6c H6v o2 g2; have H6 := Lib.hid (H5.out.app o2 g2); obtain ⟨H60, H61, H62, H63⟩ := H6.out.cells; clear o2 g2)))
            go_ret2
            exact HG.out _ _ _ _ _ H6.out HL.out rfl
        · rw [decide_eq_false h4, Bool.not_false] at q4
          have HL := Lib.hid (To.out _ hdim.out h5 h4)
          clear T5 T4 T4n To CWi RWi RN RT hp qp h4 h5 hdim
          go_wp2_with (first
            | (go_at_call 43; (with_reducible refine (CWk.out _).mono ?_); rintro e w2 ⟨rfl, b⟩; have H2 := Lib.hid ((H0.out.step b).step (bal (b0 _) (.cells #[.int .u8 2, .int .i64 0, .string (strOf (wd t.k)), .int .i32 0] 57))); obtain ⟨e20, e21, e22, e23⟩ := (H0.out.step b).cells; clear b)
            | (at_builtin; (refine app_rws rfl (.tmp 30) (.tmp 34) rfl (w.heap.size + 1) 3 c3 1 1 4 A3 (some ⟨w2.heap.size, 0, none⟩) [sy [91], nb t.d, sy [93]] [kw (wd t.k)] rfl rfl H2.out.own rfl (RWk.out w2) rfl (by decide) H2.out.lt ?_; intro H3A H3c H3v o2 g2; have H3 := Lib.hid (H2.out.app o2 g2); obtain ⟨H30, H31, H32, H33⟩ := H3.out.cells; clear o2 g2)))
          go_ret2
          exact HG.out _ _ _ _ _ H3.out HL.out rfl)
    · have hdim := Lib.hid (dim_zero hpos)
      by_cases h5 : t.k = 5
      · rw [decide_eq_true h5] at q5
        have HL := Lib.hid (T5.out _ hdim.out h5)
        clear T5 T4 T4n To CWk CWi RWk RWi RN hp qp q4 h5 hdim
        go_enter Tryd.func19, Tryd.ntmps19
        go_wp2_with (first
          | (go_at_call 12; (with_reducible refine (CM.out _).mono ?_); rintro e w1 ⟨rfl, b⟩; have H1 := Lib.hid (HV.out.step b); obtain ⟨x0, x1, x2, x3⟩ := H1.out.cells; clear b)
          | (go_at_call 42; (with_reducible refine (CK5.out _).mono ?_); rintro e w2 ⟨rfl, b⟩; have H2 := Lib.hid ((H1.out.step b).step (bal (b0 _) (.cells #[.int .u8 2, .int .i64 0, .string ⟨#[84, 73, 77, 69, 82]⟩, .int .i32 0] 57))); obtain ⟨e20, e21, e22, e23⟩ := (H1.out.step b).cells; clear b)
          | (at_builtin; (refine app_rws rfl (.tmp 23) (.tmp 25) rfl (w.heap.size + 1) 0 0 1 1 1 none (some ⟨w2.heap.size, 0, none⟩) [] [kw wTimer] rfl rfl H2.out.own rfl (RT.out w2) rfl (by decide) H2.out.lt ?_; intro H3A H3c H3v o2 g2; have H3 := Lib.hid (H2.out.app o2 g2); obtain ⟨H30, H31, H32, H33⟩ := H3.out.cells; clear o2 g2)))
        go_ret2
        exact HG.out _ _ _ _ _ H3.out HL.out rfl
      rw [decide_eq_false h5] at q5
      by_cases h4 : t.k = 4
      · rw [decide_eq_true h4, Bool.not_true] at q4
        by_cases hnil : t.p = []
        · rw [decide_eq_true hnil] at qp
          have HL := Lib.hid (T4.out _ hdim.out h4 hnil)
          clear T5 T4 T4n To CWk RWk RN RT hp hnil h4 h5 hdim
          go_enter Tryd.func19, Tryd.ntmps19
          go_wp2_with (first
            | (go_at_call 12; (with_reducible refine (CM.out _).mono ?_); rintro e w1 ⟨rfl, b⟩; have H1 := Lib.hid (HV.out.step b); obtain ⟨x0, x1, x2, x3⟩ := H1.out.cells; clear b)
            | (go_at_call 42; (with_reducible refine (CK1.out _).mono ?_); rintro e w2 ⟨rfl, b⟩; have H2 := Lib.hid (H1.out.step b); obtain ⟨e20, e21, e22, e23⟩ := (H1.out.step b).cells; clear b)
            | (go_at_call 42; (with_reducible refine (CK2.out _).mono ?_); rintro e w3 ⟨rfl, b⟩; have H3 := Lib.hid ((H2.out.step b).step (bal (b0 _) (.cells #[.int .u8 2, .int .i64 0, .string ⟨#[67, 72, 65, 78]⟩, .int .i32 0, .int .u8 2, .int .i64 0, .string ⟨#[79, 70]⟩, .int .i32 0] 57))); obtain ⟨e30, e31, e32, e33⟩ := (H2.out.step b).cells; clear b)
            | (at_builtin; (refine app_rws rfl (.tmp 36) (.tmp 39) rfl (w.heap.size + 1) 0 0 2 2 2 none (some ⟨w3.heap.size, 0, none⟩) [] [kw wChan, kw wOf] rfl rfl H3.out.own rfl (row_2 w3) rfl (by decide) H3.out.lt ?_; intro H4A H4c H4v o2 g2; have H4 := Lib.hid (H3.out.app o2 g2); obtain ⟨H40, H41, H42, H43⟩ := H4.out.cells; clear o2 g2))
            | (go_at_call 43; (with_reducible refine (CWi.out _).mono ?_); rintro e w5 ⟨rfl, b⟩; have H5 := Lib.hid ((H4.out.step b).step (bal (b0 _) (.cells #[.int .u8 2, .int .i64 0, .string (strOf (wd t.i)), .int .i32 0] 57))); obtain ⟨e50, e51, e52, e53⟩ := (H4.out.step b).cells; clear b)
            | (at_builtin; (refine app_rws rfl (.tmp 50) (.tmp 54) rfl (w.heap.size + 1) 2 H4c 1 1 3 H4A (some ⟨w5.heap.size, 0, none⟩) ([] ++ [kw wChan, kw wOf]) [kw (wd t.i)] rfl rfl H5.out.own rfl (RWi.out w5) rfl (by decide) H5.out.lt ?_; intro H6A H6c H6v o2 g2; have H6 := Lib.hid (H5.out.app o2 g2); obtain ⟨H60, H61, H62, H63⟩ := H6.out.cells; clear o2 g2)))
          go_ret2
          exact HG.out _ _ _ _ _ H6.out HL.out rfl
        · rw [decide_eq_false hnil] at qp
          have HL := Lib.hid (T4n.out _ hdim.out h4 hnil)
          clear T5 T4 T4n To CWk CWi RWk RWi RT hp hnil h4 h5 hdim
          go_enter Tryd.func19, Tryd.ntmps19
          go_wp2_with (first
            | (go_at_call 12; (with_reducible refine (CM.out _).mono ?_); rintro e w1 ⟨rfl, b⟩; have H1 := Lib.hid (HV.out.step b); obtain ⟨x0, x1, x2, x3⟩ := H1.out.cells; clear b)
            | (go_at_call 42; (with_reducible refine (CK1.out _).mono ?_); rintro e w2 ⟨rfl, b⟩; have H2 := Lib.hid (H1.out.step b); obtain ⟨e20, e21, e22, e23⟩ := (H1.out.step b).cells; clear b)
            | (go_at_call 42; (with_reducible refine (CK2.out _).mono ?_); rintro e w3 ⟨rfl, b⟩; have H3 := Lib.hid ((H2.out.step b).step (bal (b0 _) (.cells #[.int .u8 2, .int .i64 0, .string ⟨#[67, 72, 65, 78]⟩, .int .i32 0, .int .u8 2, .int .i64 0, .string ⟨#[79, 70]⟩, .int .i32 0] 57))); obtain ⟨e30, e31, e32, e33⟩ := (H2.out.step b).cells; clear b)
            | (at_builtin; (refine app_rws rfl (.tmp 36) (.tmp 39) rfl (w.heap.size + 1) 0 0 2 2 2 none (some ⟨w3.heap.size, 0, none⟩) [] [kw wChan, kw wOf] rfl rfl H3.out.own rfl (row_2 w3) rfl (by decide) H3.out.lt ?_; intro H4A H4c H4v o2 g2; have H4 := Lib.hid (H3.out.app o2 g2); obtain ⟨H40, H41, H42, H43⟩ := H4.out.cells; have H5 := Lib.hid (H4.out.step (bal (b0 _) (.cells #[.int .u8 1, .int .i64 0, .string (strOf t.p), .int .i32 0] 57))); clear o2 g2))
            | (at_builtin; (refine app_rws rfl (.tmp 44) (.tmp 48) rfl (w.heap.size + 1) 2 H4c 1 1 3 H4A (some ⟨H4v.heap.size, 0, none⟩) ([] ++ [kw wChan, kw wOf]) [nm t.p] rfl rfl H5.out.own rfl (RN.out H4v) rfl (by decide) H5.out.lt ?_; intro H6A H6c H6v o2 g2; have H6 := Lib.hid (H5.out.app o2 g2); obtain ⟨H60, H61, H62, H63⟩ := H6.out.cells; clear o2 g2)))
          go_ret2
          exact HG.out _ _ _ _ _ H6.out HL.out rfl
      · rw [decide_eq_false h4, Bool.not_false] at q4
        have HL := Lib.hid (To.out _ hdim.out h5 h4)
        clear T5 T4 T4n To CWi RWi RN RT hp qp h4 h5 hdim
        go_enter Tryd.func19, Tryd.ntmps19
        go_wp2_with (first
          | (go_at_call 12; (with_reducible refine (CM.out _).mono ?_); rintro e w1 ⟨rfl, b⟩; have H1 := Lib.hid (HV.out.step b); obtain ⟨x0, x1, x2, x3⟩ := H1.out.cells; clear b)
          | (go_at_call 43; (with_reducible refine (CWk.out _).mono ?_); rintro e w2 ⟨rfl, b⟩; have H2 := Lib.hid ((H1.out.step b).step (bal (b0 _) (.cells #[.int .u8 2, .int .i64 0, .string (strOf (wd t.k)), .int .i32 0] 57))); obtain ⟨e20, e21, e22, e23⟩ := (H1.out.step b).cells; clear b)
          | (at_builtin; (refine app_rws rfl (.tmp 30) (.tmp 34) rfl (w.heap.size + 1) 0 0 1 1 1 none (some ⟨w2.heap.size, 0, none⟩) [] [kw (wd t.k)] rfl rfl H2.out.own rfl (RWk.out w2) rfl (by decide) H2.out.lt ?_; intro H3A H3c H3v o2 g2; have H3 := Lib.hid (H2.out.app o2 g2); obtain ⟨H30, H31, H32, H33⟩ := H3.out.cells; clear o2 g2)))
        go_ret2
        exact HG.out _ _ _ _ _ H3.out HL.out rfl
end Go.Proofs.YtbkbhlbfkfnljaaDoor
