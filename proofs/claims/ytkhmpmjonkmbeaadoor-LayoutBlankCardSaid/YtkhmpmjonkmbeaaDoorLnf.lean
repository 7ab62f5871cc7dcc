/- The program's iterator over the lines of a text with content. -/
import Derived.Test.YtkhmpmjonkmbeaaDoorSpl
import Derived.Test.YtkhmpmjonkmbeaaDoorLof
set_option linter.unusedVariables false
set_option linter.unusedSimpArgs false
namespace Go.Proofs.YtkhmpmjonkmbeaaDoor
open Go Go.RowKit Go.Shelf L7
attribute [local go_sem] Oper.semAt_some

theorem wpIn_scope {n : Nat} {P : Program} {Q : Exit → Act → World → Prop} {a : Act} {w : World} {c : Code} (h : c.wpIn Fence.wide n P (Exit.noGoto Q) a w) : (Code.scope c).wpIn Fence.wide n P Q a w :=
  wpIn_wide.2 (wp_scope_straight (wpIn_wide.1 h))
theorem splitSeq_in (n : Nat) (s p : ByteArray) (z : Int) (w : World) :
    CallsIn Fence.wide n Tryd.prog 82 #[.string s, .string p, .int .i64 z] w fun e w' => e = .returned (.func (.func 92) #[] #[.pointer (some ⟨w.heap.size + 1, 0, none⟩), .pointer (some ⟨w.heap.size, 0, none⟩), .pointer (some ⟨w.heap.size + 1 + 1, 0, none⟩)]) ∧ w' = ((w.alloc (.cells #[.string s] 9)).alloc (.cells #[.string p] 9)).alloc (.cells #[.int .i64 z] 3) := by
  refine callsIn_of_wp Tryd.func82 rfl trivial ?_ rfl
  simp only [Tryd.ntmps82, List.size_toArray, List.length_cons, List.length_nil, Nat.reduceAdd, Nat.reduceSub, Array.replicate_succ, Array.replicate_zero, List.push_toArray, List.append_toArray, List.nil_append, List.cons_append]
  gi_wp2
  go_ret
  exact ⟨rfl, rfl⟩
theorem splitSeq2_in (n : Nat) (s : ByteArray) (w : World) :
    CallsIn Fence.wide (n + 1) Tryd.prog 66 #[.string s, .string ⟨#[10]⟩] w fun e w' => e = .returned (.func (.func 92) #[] #[.pointer (some ⟨w.heap.size + 1, 0, none⟩), .pointer (some ⟨w.heap.size, 0, none⟩), .pointer (some ⟨w.heap.size + 1 + 1, 0, none⟩)]) ∧ w' = ((w.alloc (.cells #[.string s] 9)).alloc (.cells #[.string ⟨#[10]⟩] 9)).alloc (.cells #[.int .i64 0] 3) := by
  refine callsIn_of_wp Tryd.func66 rfl trivial ?_ rfl
  simp only [Tryd.ntmps66, List.size_toArray, List.length_cons, List.length_nil, Nat.reduceAdd, Nat.reduceSub, Array.replicate_succ, Array.replicate_zero, List.push_toArray, List.append_toArray, List.nil_append, List.cons_append]
  gi_wp2_with (refine ⟨trivial, ?_⟩; gi_at_call 82; refine (splitSeq_in _ _ _ _ _).mono ?_; rintro e w' ⟨rfl, rfl⟩)
  go_ret
  exact ⟨rfl, rfl⟩
theorem linesOf_in (n : Nat) (s : ByteArray) (w : World) :
    CallsIn Fence.wide n Tryd.prog 53 #[.string s] w fun e w' => e = .returned (.func (.func 65) #[] #[.pointer (some ⟨w.heap.size, 0, none⟩)]) ∧ w' = w.alloc (.cells #[.string s] 9) := by
  refine callsIn_of_wp Tryd.func53 rfl trivial ?_ rfl
  simp only [Tryd.ntmps53, List.size_toArray, List.length_cons, List.length_nil, Nat.reduceAdd, Nat.reduceSub, Array.replicate_succ, Array.replicate_zero, List.push_toArray, List.append_toArray, List.nil_append, List.cons_append]
  gi_wp2
  go_ret
  exact ⟨rfl, rfl⟩
/-- What lies from c on stays as it was: the boxes (but those of lines), and (but for two blocks) what is no cells. -/
def KpL (c : Nat) (W W' : World) : Prop := KeepsFrom (c + 2) W W' ∧ (∀ B t v, c ≤ B → (t = 9 ∨ t = 3 ∨ t = 96) → Boxed W B t v → Boxed W' B t v) ∧ (MaxIs W → MaxIs W')
theorem kpL_t {c : Nat} {X Y Z : World} (h : KpL c X Y) (k : KpL c Y Z) : KpL c X Z := ⟨h.1.trans k.1, fun B t v hB ht hv => k.2.1 B t v hB ht (h.2.1 B t v hB ht hv), fun hm => k.2.2 (h.2.2 hm)⟩
theorem keepsFrom_mono {a b : Nat} {W W' : World} (h : KeepsFrom a W W') (hab : a ≤ b) : KeepsFrom b W W' := ⟨h.size, fun k o hk hh ho => h.same k o (Nat.le_trans hab hk) hh ho⟩
theorem abd_max {β : Type} {ok : Nat → Prop} (h : ∀ r, ok r → 0 < r) : Abd ok (fun (_ : β) W => MaxIs W) := fun s X Y row hs hg hr => by
  obtain ⟨m, hm⟩ := hs
  exact ⟨m, hg.cell hm (fun e => by have := h _ (hr _ e.symm).1; simp at this)⟩
theorem MaxIs.set {W : World} {B j : Nat} (h : MaxIs W) (hB : 0 ≠ B) (v : Value) : MaxIs (W.setCell ⟨B, j, none⟩ v) := by
  obtain ⟨m, hm⟩ := h
  refine ⟨m, ?_⟩
  have hb := World.block_lt_of_cell? W _ hm
  have e := Below.heap_setCell W ⟨B, j, none⟩ v 0 hB
  simp only [World.cell?] at hm ⊢
  rw [e]
  exact hm
theorem items_eq (l : Bs) (r : List Bs) (i : Nat) : itemsOf (l :: r) i = if (cutL l).2.isEmpty then itemsOf r (i + 1) else (i, (cutL l).1, (cutL l).2) :: itemsOf r (i + 1) := rfl
theorem items_app (a b : List Bs) (i : Nat) : itemsOf (a ++ b) i = itemsOf a i ++ itemsOf b (i + a.length) := by
  induction a generalizing i with
  | nil => simp [itemsOf]
  | cons l a ih =>
    rw [List.cons_append, items_eq, items_eq, ih (i + 1)]
    have : i + 1 + a.length = i + (l :: a).length := by simp only [List.length_cons]; omega
    rw [this]
    split <;> rfl
theorem items_pre {a b : List Bs} (h : a <+: b) (i : Nat) : itemsOf a i <+: itemsOf b i := by
  obtain ⟨c, rfl⟩ := h
  rw [items_app]
  exact List.prefix_append _ _
theorem items_snoc_no {a : List Bs} {l : Bs} (i : Nat) (h : (cutL l).2.isEmpty = true) : itemsOf (a ++ [l]) i = itemsOf a i := by
  rw [items_app]
  have : itemsOf [l] (i + a.length) = [] := by unfold itemsOf; rw [if_pos h]; rfl
  rw [this, List.append_nil]
theorem items_snoc_yes {a : List Bs} {l : Bs} (i : Nat) (h : (cutL l).2.isEmpty = false) : itemsOf (a ++ [l]) i = itemsOf a i ++ [(i + a.length, (cutL l).1, (cutL l).2)] := by
  rw [items_app]
  have : itemsOf [l] (i + a.length) = [(i + a.length, (cutL l).1, (cutL l).2)] := by unfold itemsOf; rw [if_neg (by rw [h]; decide)]; rfl
  rw [this]
theorem mem_pre {s : Bs} {pre : List Bs} {x : Bs} (h : pre ++ [x] <+: lnsOf s) : x.length ≤ s.length ∧ pre.length + 1 ≤ s.length + 1 := by
  have h1 := h.length_le
  have h2 := (lns_len s).2
  rw [List.length_append, List.length_singleton] at h1
  refine ⟨?_, by omega⟩
  obtain ⟨c, hc⟩ := h
  have := lns_le s pre.length
  rw [← hc] at this
  simpa using this
set_option maxRecDepth 100000 in
set_option maxHeartbeats 8000000 in
theorem line_items {B : Nat} {s : Bs} (hs : s.length ≤ 90000) {w0 : World} (hB : Boxed w0 B 9 (.string (strOf s))) (hm : MaxIs w0) :
    SeqS Tryd.prog (fun _ => False) 65 #[.pointer (some ⟨B, 0, none⟩)] (fun x : L7.Item => #[rwV (itL x)]) (KpL w0.heap.size) (fun ys => ys = itemsOf (lnsOf s) 1) (fun pre => pre <+: itemsOf (lnsOf s) 1) w0 := by
  intro l J Jx W hW hJ hJx hY h0
  have bW : Boxed W B 9 (.string (strOf s)) := (hW.block B hB.lt).trans hB
  have hmW := hm.below (show Below w0.heap.size w0 W from hW)
  obtain ⟨n, hn⟩ : ∃ n, W.heap.size = n := ⟨_, rfl⟩
  have hc : w0.heap.size ≤ n := by rw [← hn]; exact hW.size
  generalize w0.heap.size = c at *
  rw [hn] at hJ hJx
  have HJ := Lib.hid hJ
  have HX := Lib.hid hJx
  have HY := Lib.hid hY
  have HM := Lib.hid hmW
  have hg0 : 0 < n := by obtain ⟨q, hq⟩ := hmW; rw [← hn]; exact g_lt hq
  -- the world where the loop over the library's iterator begins
  have y1 := Boxed.new W 96 (.func (.yield l) #[] #[])
  have y2 := Boxed.new (W.alloc (.cells #[.func (.yield l) #[] #[]] 96)) 3 (.int .i64 0)
  have bWl := bW.lt
  have c1 := ((bW.alloc (.cells #[.func (.yield l) #[] #[]] 96)).alloc (.cells #[.int .i64 0] 3)).cell
  have HN := Lib.hid hn
  have hbw : Below n W ((W.alloc (.cells #[.func (.yield l) #[] #[]] 96)).alloc (.cells #[.int .i64 0] 3)) := by rw [← hn]; exact bal (bal (b0 W) _) _
  have HBw := Lib.hid hbw
  clear hJ hJx hY hW hB bW hmW hm hbw
  refine callsIn_wide.2 ((callsIn_wide (n := 2)).1 ?_)
  refine callsIn_of_wp_marks Tryd.func65 rfl trivial ?_ rfl
  simp only [Tryd.ntmps65, List.size_toArray, List.length_cons, List.length_nil, Nat.reduceAdd, Nat.reduceSub, Array.replicate_succ, Array.replicate_zero, List.push_toArray, List.append_toArray, List.nil_append, List.cons_append]
  gi_wp2_with (refine ⟨trivial, ?_⟩; gi_at_call 66; refine (splitSeq2_in _ _ _).mono ?_; rintro e w' ⟨rfl, rfl⟩)
  obtain ⟨V1, hV1⟩ : ∃ V1, (W.alloc (.cells #[.func (.yield l) #[] #[]] 96)).alloc (.cells #[.int .i64 0] 3) = V1 := ⟨_, rfl⟩
  have hszV : V1.heap.size = n + 1 + 1 := by rw [← hV1]; simp only [World.size_alloc, HN.out]
  have j1 := HJ.out.grown (HJ.out.grown h0 (World.grownBy_alloc _ (.cells #[.func (.yield l) #[] #[]] 96) none)) (World.grownBy_alloc _ (.cells #[.int .i64 0] 3) none)
  have u1 := y1.alloc (.cells #[.int .i64 0] 3)
  simp only [World.size_alloc, hn] at u1 y2
  have hbV := HBw.out
  rw [hV1] at u1 y2 j1 hbV ⊢
  obtain ⟨W0, hW0⟩ : ∃ W0, ((V1.alloc (.cells #[.string (strOf s)] 9)).alloc (.cells #[.string ⟨#[10]⟩] 9)).alloc (.cells #[.int .i64 0] 3) = W0 := ⟨_, rfl⟩
  have z1 := ((u1.alloc (.cells #[.string (strOf s)] 9)).alloc (.cells #[.string ⟨#[10]⟩] 9)).alloc (.cells #[.int .i64 0] 3)
  have z2 := ((y2.alloc (.cells #[.string (strOf s)] 9)).alloc (.cells #[.string ⟨#[10]⟩] 9)).alloc (.cells #[.int .i64 0] 3)
  have z3 := ((Boxed.new V1 9 (.string (strOf s))).alloc (.cells #[.string ⟨#[10]⟩] 9)).alloc (.cells #[.int .i64 0] 3)
  have z4 := (Boxed.new (V1.alloc (.cells #[.string (strOf s)] 9)) 9 (.string ⟨#[10]⟩)).alloc (.cells #[.int .i64 0] 3)
  have z5 := Boxed.new ((V1.alloc (.cells #[.string (strOf s)] 9)).alloc (.cells #[.string ⟨#[10]⟩] 9)) 3 (.int .i64 0)
  have j0 := HJ.out.grown (HJ.out.grown (HJ.out.grown j1 (World.grownBy_alloc _ (.cells #[.string (strOf s)] 9) none)) (World.grownBy_alloc _ (.cells #[.string ⟨#[10]⟩] 9) none)) (World.grownBy_alloc _ (.cells #[.int .i64 0] 3) none)
  have hbV0 : Below n W (((V1.alloc (.cells #[.string (strOf s)] 9)).alloc (.cells #[.string ⟨#[10]⟩] 9)).alloc (.cells #[.int .i64 0] 3)) := ((hbV.alloc (by omega) _).alloc (by simp; omega) _).alloc (by simp; omega) _
  have hsz : (((V1.alloc (.cells #[.string (strOf s)] 9)).alloc (.cells #[.string ⟨#[10]⟩] 9)).alloc (.cells #[.int .i64 0] 3)).heap.size = n + 5 := by simp only [World.size_alloc, hszV]
  simp only [World.size_alloc, hszV] at z3 z4 z5
  rw [hW0] at z1 z2 z3 z4 z5 j0 hsz hbV0 ⊢
  clear hW0 hV1 u1 y1 y2 h0 c1 j1 hbV
  refine range_soft (own := fun r => r = n + 1 + 1) (by omega) (gf := 92) (lb := #[.pointer (some ⟨n + 1 + 1 + 1, 0, none⟩), .pointer (some ⟨n + 1 + 1, 0, none⟩), .pointer (some ⟨n + 1 + 1 + 1 + 1, 0, none⟩)]) rfl (enters_of Tryd.func92 (by kernel_rfl) rfl)
    (str_split (b := n + 1 + 1) (by omega) (by omega) (by omega) (by omega) (by omega) (by omega) z3 z4 z5) kpT_t (fun V o o' hl ho B t v _ _ hv => boxed_put hl ho hv) (Below.refl _ _) (fun _ => rfl)
    (fun pre V => ((J (itemsOf pre 1) V ∧ Boxed V (n + 1) 3 (.int .i64 ((pre.length : Nat) : Int))) ∧ Boxed V n 96 (.func (.yield l) #[] #[])) ∧ MaxIs V)
    (fun c pre V => c = .ret ∧ Jx (itemsOf pre 1) V)
    (Abd.and (Abd.and (Abd.and (fun s X Y row hs hg hr => HJ.out _ X Y row hs hg (fun r e => ⟨.inr (by rcases (hr r e).1 with h | h <;> omega), (hr r e).2⟩)) (abd_box (by omega) _ _)) (abd_box (by omega) _ _)) (abd_max (fun r h => by rcases h with h | h <;> omega)))
    (fun c => Abd.and (abd_pure _ _) (fun s X Y row hs hg hr => HX.out _ X Y row hs hg (fun r e => ⟨.inr (by rcases (hr r e).1 with h | h <;> omega), (hr r e).2⟩)))
    ⟨⟨⟨j0, z2⟩, z1⟩, HM.out.below (by rw [HN.out]; exact hbV0)⟩
    (fun x a' _ => a' = { tmps := #[.func (.yield l) #[] #[], .pointer (some ⟨B, 0, none⟩), .pointer (some ⟨n, 0, none⟩), .pointer (some ⟨n + 1, 0, none⟩), .string (strOf x), undef, .string (strOf s), .func (.func 92) #[] #[.pointer (some ⟨n + 1 + 1 + 1, 0, none⟩), .pointer (some ⟨n + 1 + 1, 0, none⟩), .pointer (some ⟨n + 1 + 1 + 1 + 1, 0, none⟩)], .string (strOf x), undef, undef, undef, undef, undef, undef, undef, undef, undef, undef, undef, undef, undef, undef], defers := [] })
    (fun _ _ _ _ _ h _ _ => h) ?assign ?body ?done ?stop
  case assign =>
    rintro l2 pre x V K hI hK
    gi_wp2
    exact hK _ _ (KeepsFrom.refl _ _) (fun _ _ _ _ _ h => h) hI rfl
  case body =>
    rintro l2 pre x a' V ⟨⟨⟨hj, hN⟩, hF⟩, hVb⟩ rfl hsp
    obtain ⟨hxl, hpl⟩ := mem_pre hsp
    have hpre := items_pre hsp 1
    have hno := items_snoc_no (a := pre) (l := x) 1
    have hyes := items_snoc_yes (a := pre) (l := x) 1
    obtain ⟨m, hm⟩ : ∃ m, pre.length = m := ⟨_, rfl⟩
    have HLn := Lib.hid (show (pre ++ [x]).length = m + 1 by simp [hm])
    rw [hm] at hN hpl hyes
    rw [Nat.add_comm 1 m] at hyes
    have v1 := Lib.hid (show J (itemsOf pre 1) (V.setCell ⟨n + 1, 0, none⟩ (.int .i64 ((m : Int) + 1))) from HJ.out _ V _ (some (n + 1)) hj (grownBy_setCell' V (n + 1) _) (fun q e => by cases e; exact ⟨.inr (by omega), soft_int hN⟩))
    have v2 := Lib.hid (hN.set (.int .i64 ((m : Int) + 1)))
    have v3 := Lib.hid (hF.other (B' := n + 1) (by omega) (.int .i64 ((m : Int) + 1)))
    have v4 := Lib.hid (show MaxIs (V.setCell ⟨n + 1, 0, none⟩ (.int .i64 ((m : Int) + 1))) from hVb.set (by omega) _)
    have vN := Lib.hid hN
    have e1 : ((m + 1 : Nat) : Int) = (m : Int) + 1 := by omega
    have CL0 := CallsIn.inRound (n := 0) l2 (callsIn_wide.2 (lineOf_any (m + 1) x (by omega) (V.setCell ⟨n + 1, 0, none⟩ (.int .i64 ((m : Int) + 1))) v4.out))
    have CL := Lib.hid (show CallsIn (Fence.wide.inRound l2) 0 Tryd.prog 67 #[.int .i64 ((m : Int) + 1), .string (strOf x)] (V.setCell ⟨n + 1, 0, none⟩ (.int .i64 ((m : Int) + 1))) fun e w' => e = .returned (.agg #[.int .i64 ((m : Int) + 1), .int .i64 ((cutL x).1 : Int), .string (strOf (cutL x).2)]) ∧ Below (V.setCell ⟨n + 1, 0, none⟩ (.int .i64 ((m : Int) + 1))).heap.size (V.setCell ⟨n + 1, 0, none⟩ (.int .i64 ((m : Int) + 1))) w' from CL0)
    clear CL0
    have k1 := hN.cell
    have k2 := hN.frozen
    have k3 := v2.out.cell
    have ht0 := strOf_empty (cutL x).2
    generalize cutL x = ct at *
    obtain ⟨ind, t⟩ := ct
    dsimp only at *
    have hb : (m : Int) ≤ 100000 := by omega
    have HKp : Hid (∀ V2, Below (V.setCell ⟨n + 1, 0, none⟩ (.int .i64 ((m : Int) + 1))).heap.size (V.setCell ⟨n + 1, 0, none⟩ (.int .i64 ((m : Int) + 1))) V2 → ∀ o : Obj,
        (KeepsFrom W0.heap.size V (V2.alloc o) ∧ KpT (n + 1 + 1) V (V2.alloc o)) ∧ J (itemsOf pre 1) (V2.alloc o) ∧ Boxed (V2.alloc o) (n + 1) 3 (.int .i64 ((m : Int) + 1)) ∧ Boxed (V2.alloc o) n 96 (.func (.yield l) #[] #[]) ∧ MaxIs (V2.alloc o)) := Lib.hid fun V2 b2 o => by
      have g2 := g_of_below b2
      refine ⟨⟨?_, ?_⟩, ?_, ?_, ?_, ?_⟩
      · exact (((KeepsOthers.setCell V ⟨n + 1, 0, none⟩ _).trans (KeepsOthers.of_grownBy g2 (fun _ _ e => (by cases e)))).trans (KeepsOthers.alloc V2 o)).from _
      · exact fun Bx tt v hBx _ hv => ((hv.other (B' := n + 1) (by omega) _).kept g2 (by simp)).alloc o
      · exact HJ.out.grown (HJ.out.grown v1.out g2) (World.grownBy_alloc V2 o none)
      · exact (v2.out.kept g2 (by simp)).alloc o
      · exact (v3.out.kept g2 (by simp)).alloc o
      · exact (v4.out.below b2).below (bal (b0 V2) o)
    clear hj hN hF hVb hxl hpl hsp hm
    cases h0 : t.isEmpty with
    | true =>
      have HI := Lib.hid (hno h0)
      rw [h0] at ht0
      have hq : (!(strOf t).toList.isEmpty) = false := by rw [ht0]; rfl
      clear hno hyes h0 hpre
      generalize strOf t = T at *
      gi_wp2_with (refine ⟨trivial, rfl, ?_⟩; go_loud (gi_at_call 67; refine (CL.out).mono ?_; rintro e V2 ⟨rfl, b2⟩; have K2 := Lib.hid (HKp.out V2 b2 (.cells #[.int .i64 ((m : Int) + 1), .int .i64 (ind : Int), .string T] 83)); have d1 := K2.out.2.2.2.1.cell; clear b2))
      refine ⟨fun _ h => (by cases h), ?_⟩
      gi_wp2
      refine ⟨K2.out.1, ⟨⟨?_, ?_⟩, K2.out.2.2.2.1⟩, K2.out.2.2.2.2⟩
      · rw [HI.out]; exact K2.out.2.1
      · rw [HLn.out]; exact K2.out.2.2.1
    | false =>
      have HI := Lib.hid (hyes h0)
      have HP := Lib.hid (show itemsOf pre 1 ++ [(m + 1, ind, t)] <+: itemsOf (lnsOf s) 1 by rw [← hyes h0]; exact hpre)
      rw [h0] at ht0
      have hq : (!(strOf t).toList.isEmpty) = true := by rw [ht0]; rfl
      have HYi := Lib.hid (fun (V3 : World) (h : J (itemsOf pre 1) V3) => show YieldAt Fence.wide 0 Tryd.prog l #[.agg #[.int .i64 ((m : Int) + 1), .int .i64 (ind : Int), .string (strOf t)]] V3 _ from HY.out _ (m + 1, ind, t) V3 h HP.out)
      clear hno hyes h0 hpre
      generalize strOf t = T at *
      gi_wp2_with (refine ⟨trivial, rfl, ?_⟩; gi_at_call 67; refine (CL.out).mono ?_; rintro e V2 ⟨rfl, b2⟩; have K2 := Lib.hid (HKp.out V2 b2 (.cells #[.int .i64 ((m : Int) + 1), .int .i64 (ind : Int), .string T] 83)); have d1 := K2.out.2.2.2.1.cell; obtain ⟨fn, tmps, asg, body, hy, hR⟩ := HYi.out _ K2.out.2.1; clear b2)
      refine ⟨rfl, RoundIn.mono hR ?_⟩
      rintro e V3 ⟨h3, hk⟩
      have HB := Lib.hid (show (KeepsFrom W0.heap.size V V3 ∧ KpT (n + 1 + 1) V V3) ∧ Boxed V3 (n + 1) 3 (.int .i64 (((m + 1 : Nat)) : Int)) ∧ Boxed V3 n 96 (.func (.yield l) #[] #[]) ∧ MaxIs V3 from
        ⟨⟨K2.out.1.1.trans (keepsFrom_mono hk.1 (by omega)), fun Bx tt v hBx ht hv => hk.2.1 _ _ _ (by omega) (ht.imp id .inl) (K2.out.1.2 Bx tt v hBx ht hv)⟩, hk.2.1 _ _ _ (by omega) (.inr (.inl rfl)) K2.out.2.2.1, hk.2.1 _ _ _ hc (.inr (.inr rfl)) K2.out.2.2.2.1, hk.2.2 K2.out.2.2.2.2⟩)
      clear hk hR hy
      rcases h3 with ⟨rfl, h3⟩ | ⟨rfl, h3⟩
      · have H3 := Lib.hid h3
        clear h3
        gi_wp2
        refine ⟨HB.out.1, ⟨⟨?_, ?_⟩, HB.out.2.2.1⟩, HB.out.2.2.2⟩
        · rw [HI.out]; exact H3.out
        · rw [HLn.out]; exact HB.out.2.1
      · have H3 := Lib.hid h3
        clear h3
        gi_wp2
        exact ⟨HB.out.1, rfl, by rw [HI.out]; exact H3.out⟩
  case done =>
    rintro D ys V hD rfl ⟨⟨⟨hj, hN⟩, hF⟩, hW⟩ hK
    have hf := Lib.hid (HJ.out.put (.deferred none) hj (.inr (by omega)) hK rfl)
    clear hj hN hF hW
    gi_wp2
    refine ⟨by simp, .inl ⟨_, _, rfl, run_takeDeferred hK, ?_⟩⟩
    exact ⟨_, results_none rfl _ _ _, ⟨_, rfl⟩, .inl ⟨_, rfl, hf.out⟩⟩
  case stop =>
    rintro D c pre V hD hpre ⟨rfl, hx⟩ hK
    have hf := Lib.hid (HX.out.put (.deferred none) hx (.inr (by omega)) hK rfl)
    have hp := Lib.hid (items_pre hpre 1)
    clear hx hpre
    gi_wp2
    refine ⟨by simp, .inl ⟨_, _, rfl, run_takeDeferred hK, ?_⟩⟩
    exact ⟨_, results_none rfl _ _ _, ⟨_, rfl⟩, .inr ⟨_, hp.out, hf.out⟩⟩
end Go.Proofs.YtkhmpmjonkmbeaaDoor
