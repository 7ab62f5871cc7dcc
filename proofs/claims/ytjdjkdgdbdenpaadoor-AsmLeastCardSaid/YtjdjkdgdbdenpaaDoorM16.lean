/- The iterators over the lines of a text: the library's, and the program's. -/
import Derived.BigQuiet
import Derived.Test.YtjdjkdgdbdenpaaDoorM08
import Derived.Test.YtjdjkdgdbdenpaaDoorShelf
import Derived.Test.YtjdjkdgdbdenpaaDoorM15
set_option linter.unusedVariables false
set_option linter.unusedSimpArgs false
namespace Go.Proofs.YtjdjkdgdbdenpaaDoor
open Go Go.RowKit Go.Shelf
attribute [local go_sem] Oper.semAt_some

theorem ib_upto (l : Bs) (c : UInt8) : Lib.indexByte l c = if upto l c < l.length then (upto l c : Int) else -1 := by
  induction l with
  | nil => rfl
  | cons b l ih =>
    unfold Lib.indexByte
    by_cases h : b = c
    · subst h
      have e : upto (b :: l) b = 0 := by simp [upto]
      simp [e]
    · have e : upto (b :: l) c = upto l c + 1 := by
        unfold upto
        rw [List.takeWhile_cons_of_pos (by simpa using h)]
        rfl
      have hb : (b == c) = false := by simpa using h
      rw [hb, ih, e]
      simp only [List.length_cons, Bool.false_eq_true, if_false]
      by_cases h2 : upto l c < l.length
      · have g : (((upto l c : Nat) : Int) == -1) = false := by
          simp only [beq_eq_false_iff_ne, ne_eq]
          omega
        rw [if_pos h2, g, if_pos (show upto l c + 1 < l.length + 1 by omega)]
        rfl
      · rw [if_neg h2, if_neg (show ¬ upto l c + 1 < l.length + 1 by omega)]
        rfl
theorem cut_to (l : Bs) (k : Nat) (h : k ≤ l.length) (W : World) : (Instr.slice 9 (.string (strOf l)) none (some (.int .i64 (k : Int))) none).run Tryd.prog W = .ok (.string (strOf (l.take k))) W := by
  have hs := size_strOf l
  rw [run_slice_string_to_if W 9 (strOf l) .i64 (k : Int) Tryd.underlying9, if_pos ⟨by omega, by omega⟩, Int.toNat_natCast]
  congr 2
  apply ByteArray.ext
  simp [strOf]
theorem cut_from (l : Bs) (k : Nat) (h : k ≤ l.length) (W : World) : (Instr.slice 9 (.string (strOf l)) (some (.int .i64 (k : Int))) none none).run Tryd.prog W = .ok (.string (strOf (l.drop k))) W := by
  have hs := size_strOf l
  rw [run_slice_string_from_if W 9 (strOf l) .i64 (k : Int) Tryd.underlying9, if_pos ⟨by omega, by omega⟩, Int.toNat_natCast]
  congr 2
  apply ByteArray.ext
  apply Array.ext'
  have h2 : (strOf l).data.toList = l := rfl
  simp only [ByteArray.data_extract, Array.toList_extract, h2, hs]
  simp [strOf, List.extract]
  exact List.take_of_length_le (by simp)
theorem take_hit {R : Bs} {k : Nat} (hk : k < R.length) (h : R = R.take k ++ 10 :: R.drop (k + 1)) : R.take (k + 1) = R.take k ++ [10] := by
  have hl : (R.take k).length = k := by simp; omega
  have e := List.take_length_add_append (l₁ := R.take k) (l₂ := 10 :: R.drop (k + 1)) 1
  rw [hl, ← h] at e
  exact e
/-- The strings' boxes from b on stay as they were. -/
def KpT (b : Nat) (W W' : World) : Prop := ∀ B v, b ≤ B → Boxed W B 9 v → Boxed W' B 9 v
theorem kpT_t {b : Nat} {X Y Z : World} (h : KpT b X Y) (k : KpT b Y Z) : KpT b X Z := fun B v hB hv => k B v hB (h B v hB hv)
theorem boxed_put {W : World} {l B : Nat} {o o' : Obj} {t : TypeId} {v : Value} (hl : W.heap[l]? = some o) (ho : o.isCells = false) (hv : Boxed W B t v) : Boxed (W.putObj l o') B t v :=
  hv.kept (grownBy_putObj' W l o') (fun e => by cases e; rw [show W.heap[l]? = _ from hv] at hl; cases hl; cases ho)
/-- How long the text in a box is. -/
def boxLen (B : Nat) (W : World) : Nat := match W.cell? ⟨B, 0, none⟩ with | some (.string x) => x.size | _ => 0
theorem boxLen_of {B : Nat} {W : World} {r : Bs} (h : Boxed W B 9 (.string (strOf r))) : boxLen B W = r.length := by
  unfold boxLen
  rw [h.cell]
  exact size_strOf r
/-- What the library's iterator has handed out, and what is left. -/
def LnsAt (J : List Bs → World → Prop) (B : Nat) (s : Bs) (W : World) : Prop := ∃ pre r, J pre W ∧ spl s = pre ++ spl r ∧ Boxed W B 9 (.string (strOf r)) ∧ r.length ≤ 100000
set_option maxRecDepth 100000 in
set_option maxHeartbeats 4000000 in
theorem str_lines {B b : Nat} (hb : b ≤ B) {s : Bs} (hs : s.length ≤ 100000) {w0 : World} (hB : Boxed w0 B 9 (.string (strOf s))) :
    SeqS Tryd.prog (fun r => r = B) 60 #[.pointer (some ⟨B, 0, none⟩)] (fun x : Bs => #[.string (strOf x)]) (KpT b) (fun ys => ys = spl s) (fun pre => pre <+: spl s) w0 := by
  intro l J Jx W hW hJ hJx hY h0
  have bW : Boxed W B 9 (.string (strOf s)) := (hW.block B hB.lt).trans hB
  have HJ := Lib.hid hJ
  have HY := Lib.hid hY
  have H0 := Lib.hid (show LnsAt J B s W from ⟨[], s, h0, rfl, bW, hs⟩)
  clear hJ hY h0 bW hW hs hB hJx
  refine callsIn_of_wp Tryd.func60 rfl trivial ?_ rfl
  simp only [Tryd.ntmps60, List.size_toArray, List.length_cons, List.length_nil, Nat.reduceAdd, Nat.reduceSub, Array.replicate_succ, Array.replicate_zero, List.push_toArray, List.append_toArray, List.nil_append, List.cons_append]
  gi_wp2
  gi_loopw [3] (fun _ wr => Hid (LnsAt J B s wr)) (fun _ wr => boxLen B wr)
  case atStart => exact H0
  case round =>
    obtain ⟨pre, r, hJ, hsp, hb1, hr⟩ := hrel.out
    have hz := size_strOf r
    by_cases hR : r = []
    · subst hR
      have HF := Lib.hid (show pre = spl s ∧ J pre wr from ⟨by rw [hsp]; simp [spl], hJ⟩)
      have c1 := hb1.cell
      clear hsp hJ hr hb1 hrel
      generalize strOf ([] : Bs) = R0 at *
      have hz' : R0.size = 0 := hz
      clear hz
      gi_wp2
      go_end0
      exact ⟨⟨_, rfl⟩, .inl ⟨_, HF.out.1, HF.out.2⟩⟩
    · have hpos : 0 < r.length := List.length_pos_iff.2 hR
      have hd : (strOf r).data.toList = r := rfl
      have hib := ib_upto r 10
      rcases rest_part r with ⟨hk, hno⟩ | ⟨hk, hno, hpart⟩
      · rw [if_neg (by omega)] at hib
        have CI := Lib.hid (fun (V : World) => (Tryd.strings_IndexByte (strOf r) 10 V).mono (R' := fun e V' => e = .returned (.int .i64 (-1)) ∧ V' = V) (fun e V' h => by rw [h.1, hd]; exact ⟨by rw [show (10 : Int).toNat.toUInt8 = 10 from rfl, hib], h.2⟩))
        have hpre : pre ++ [r] = spl s := by rw [hsp, spl_last hno hR]
        have HP := Lib.hid hpre
        have b1 := hb1.set (.string ⟨#[]⟩)
        have j1 := HJ.out pre wr _ (some B) hJ (grownBy_setCell' wr B (.string ⟨#[]⟩)) (fun q e => by cases e; exact ⟨.inl rfl, soft_str hb1⟩)
        obtain ⟨fn, tmps, asg, body, hy, hR⟩ := HY.out pre r _ j1 (by rw [hpre]; exact List.prefix_refl _)
        have c1 := hb1.cell
        have f1 := hb1.frozen
        have HB := Lib.hid (And.intro b1 (And.intro (boxLen_of hb1) hpos))
        clear hsp hJ hr hb1 hrel hk hno hib hd hpre b1 j1
        have hz' : (0 : Int) < (r.length : Int) := by omega
        clear hpos
        gi_wp2_with (refine ⟨trivial, rfl, ?_⟩; gi_at_call 61; refine (callsIn_wide.2 (CI.out _)).mono ?_; rintro e V ⟨rfl, rfl⟩)
        refine ⟨rfl, hR.mono ?_⟩
        rintro e V3 ⟨(⟨rfl, h3⟩ | ⟨rfl, h3⟩), hk⟩
        · have HK := Lib.hid (And.intro h3 (hk B _ hb HB.out.1))
          clear h3 hk hR hy
          gi_wp2
          go_roundw
          case rel => exact Lib.hid ⟨_, [], HK.out.1, by rw [HP.out]; simp [spl], HK.out.2, by simp⟩
          case measure =>
            rw [boxLen_of (r := []) HK.out.2, HB.out.2.1]
            exact HB.out.2.2
        · clear hk hR hy
          gi_wp2
          refine bodyPost_ret (results_none rfl _ _ _) rfl ?_
          exact ⟨⟨_, rfl⟩, .inr ⟨_, by rw [HP.out]; exact List.prefix_refl _, h3⟩⟩
      · rw [if_pos hk] at hib
        have CI := Lib.hid (fun (V : World) => (Tryd.strings_IndexByte (strOf r) 10 V).mono (R' := fun e V' => e = .returned (.int .i64 ((upto r 10 : Nat) : Int)) ∧ V' = V) (fun e V' h => by rw [h.1, hd]; exact ⟨by rw [show (10 : Int).toNat.toUInt8 = 10 from rfl, hib], h.2⟩))
        have hspl : spl r = (r.take (upto r 10) ++ [10]) :: spl (r.drop (upto r 10 + 1)) := (congrArg spl hpart).trans (spl_hit hno)
        have htk := take_hit hk hpart
        have s2 := cut_to r (upto r 10 + 1) (by omega)
        have s3 := cut_from r (upto r 10 + 1) (by omega)
        rw [htk] at s2
        have hq : (r.drop (upto r 10 + 1)).length < r.length := by simp; omega
        have hpre : pre ++ [r.take (upto r 10) ++ [10]] ++ spl (r.drop (upto r 10 + 1)) = spl s := by rw [hsp, hspl]; simp
        have hkb : upto r 10 ≤ 100000 := by omega
        clear hspl htk hpart hno hib hk
        generalize r.drop (upto r 10 + 1) = q at *
        generalize r.take (upto r 10) ++ [10] = p at *
        generalize upto r 10 = k at *
        have HP := Lib.hid hpre
        have b1 : Boxed (wr.setCell ⟨B, 0, none⟩ (.string (strOf q))).drew B 9 (.string (strOf q)) := hb1.set (.string (strOf q))
        have g1 : wr.grownBy (wr.setCell ⟨B, 0, none⟩ (.string (strOf q))).drew (some B) := by
          have g := grownBy_setCell' wr B (.string (strOf q))
          exact ⟨g.os, g.tape, g.output, g.size, g.block⟩
        have j1 := HJ.out pre wr _ (some B) hJ g1 (fun q e => by cases e; exact ⟨.inl rfl, soft_str hb1⟩)
        obtain ⟨fn, tmps, asg, body, hy, hR⟩ := HY.out pre p _ j1 (by rw [← hpre]; exact List.prefix_append _ _)
        have c1 := hb1.cell
        have f1 := hb1.frozen
        have HB := Lib.hid (And.intro b1 (And.intro (boxLen_of hb1) (And.intro hq (show q.length ≤ 100000 by omega))))
        have hz' : (0 : Int) < (r.length : Int) := by omega
        have hk0 : (0 : Int) ≤ (k : Int) := by omega
        have wr1 : IntKind.i64.wrap ((k : Int) + 1) = (k : Int) + 1 := IntWalk.i64_in _ (by omega)
        have s2' : ∀ W : World, (Instr.slice 9 (.string (strOf r)) none (some (.int .i64 ((k : Int) + 1))) none).run Tryd.prog W = .ok (.string (strOf p)) W := s2
        have s3' : ∀ W : World, (Instr.slice 9 (.string (strOf r)) (some (.int .i64 ((k : Int) + 1))) none none).run Tryd.prog W = .ok (.string (strOf q)) W := s3
        clear hsp hJ hr hb1 hrel hd hpre b1 j1 g1 hq hkb s2 s3 hpos
        gi_wp2_with (refine ⟨trivial, rfl, ?_⟩; gi_at_call 61; refine (callsIn_wide.2 (CI.out _)).mono ?_; rintro e V ⟨rfl, rfl⟩)
        gi_region
        all_goals
          gi_wp2
          refine ⟨rfl, hR.mono ?_⟩
          rintro e V3 ⟨(⟨rfl, h3⟩ | ⟨rfl, h3⟩), hk⟩
        · have HK := Lib.hid (And.intro h3 (hk B _ hb HB.out.1))
          clear h3 hk hR hy
          gi_wp2
          go_roundw
          case rel => exact Lib.hid ⟨_, q, HK.out.1, HP.out.symm, HK.out.2, HB.out.2.2.2⟩
          case measure =>
            rw [boxLen_of HK.out.2, HB.out.2.1]
            exact HB.out.2.2.1
        · clear hk hR hy
          gi_wp2
          refine bodyPost_ret (results_none rfl _ _ _) rfl ?_
          exact ⟨⟨_, rfl⟩, .inr ⟨_, by rw [← HP.out]; exact List.prefix_append _ _, h3⟩⟩
end Go.Proofs.YtjdjkdgdbdenpaaDoor
/- The program's iterator over the lines of a text, with their numbers. -/
namespace Go.Proofs.YtjdjkdgdbdenpaaDoor
open Go Go.RowKit Go.Shelf
attribute [local go_sem] Oper.semAt_some

theorem strLines_in (n : Nat) (s : ByteArray) (w : World) :
    CallsIn Fence.wide n Tryd.prog 43 #[.string s] w fun e w' => e = .returned (.func (.func 60) #[] #[.pointer (some ⟨w.heap.size, 0, none⟩)]) ∧ w' = w.alloc (.cells #[.string s] 9) := by
  refine callsIn_of_wp Tryd.func43 rfl trivial ?_ rfl
  simp only [Tryd.ntmps43, List.size_toArray, List.length_cons, List.length_nil, Nat.reduceAdd, Nat.reduceSub, Array.replicate_succ, Array.replicate_zero, List.push_toArray, List.append_toArray, List.nil_append, List.cons_append]
  gi_wp2
  go_ret
  exact ⟨rfl, rfl⟩
theorem asmLines_in (n : Nat) (s : ByteArray) (w : World) :
    CallsIn Fence.wide n Tryd.prog 29 #[.string s] w fun e w' => e = .returned (.func (.func 42) #[] #[.pointer (some ⟨w.heap.size, 0, none⟩)]) ∧ w' = w.alloc (.cells #[.string s] 9) := by
  refine callsIn_of_wp Tryd.func29 rfl trivial ?_ rfl
  simp only [Tryd.ntmps29, List.size_toArray, List.length_cons, List.length_nil, Nat.reduceAdd, Nat.reduceSub, Array.replicate_succ, Array.replicate_zero, List.push_toArray, List.append_toArray, List.nil_append, List.cons_append]
  gi_wp2
  go_ret
  exact ⟨rfl, rfl⟩
/-- What lies from c on stays as it was: the boxes, and (but for two blocks) what is no cells. -/
def KpL (c : Nat) (W W' : World) : Prop := KeepsFrom (c + 2) W W' ∧ ∀ B t v, c ≤ B → t ≠ 39 → Boxed W B t v → Boxed W' B t v
theorem kpL_t {c : Nat} {X Y Z : World} (h : KpL c X Y) (k : KpL c Y Z) : KpL c X Z := ⟨h.1.trans k.1, fun B t v hB ht hv => k.2 B t v hB ht (h.2 B t v hB ht hv)⟩
theorem keepsFrom_mono {a b : Nat} {W W' : World} (h : KeepsFrom a W W') (hab : a ≤ b) : KeepsFrom b W W' := ⟨h.size, fun k o hk hh ho => h.same k o (Nat.le_trans hab hk) hh ho⟩
theorem spl_len (s : Bs) : (spl s).length ≤ s.length := by
  induction s with
  | nil => exact Nat.le_refl _
  | cons c cs ih =>
    unfold spl
    split
    · simp only [List.length_cons]; omega
    · split
      · simp
      · rename_i h t e
        rw [e] at ih
        simp only [List.length_cons] at ih ⊢
        omega
theorem zip_snoc (l : List Bs) (x : Bs) : (l ++ [x]).zipIdx 1 = l.zipIdx 1 ++ [(x, l.length + 1)] := by
  rw [List.zipIdx_append, List.zipIdx_singleton, Nat.add_comm]
theorem zip_pre {a b : List Bs} (h : a <+: b) : a.zipIdx 1 <+: b.zipIdx 1 := by
  obtain ⟨c, rfl⟩ := h
  rw [List.zipIdx_append]
  exact List.prefix_append _ _
set_option maxRecDepth 100000 in
set_option maxHeartbeats 4000000 in
theorem asm_lines {B : Nat} {s : Bs} (hs : s.length ≤ 100000) {w0 : World} (hB : Boxed w0 B 9 (.string (strOf s))) :
    SeqS Tryd.prog (fun _ => False) 42 #[.pointer (some ⟨B, 0, none⟩)] (fun x : Bs × Nat => #[.int .i64 (x.2 : Int), .string (strOf x.1)]) (KpL w0.heap.size) (fun ys => ys = (spl s).zipIdx 1) (fun pre => pre <+: (spl s).zipIdx 1) w0 := by
  intro l J Jx W hW hJ hJx hY h0
  have bW : Boxed W B 9 (.string (strOf s)) := (hW.block B hB.lt).trans hB
  obtain ⟨n, hn⟩ : ∃ n, W.heap.size = n := ⟨_, rfl⟩
  have hc : w0.heap.size ≤ n := by rw [← hn]; exact hW.size
  generalize w0.heap.size = c at *
  rw [hn] at hJ hJx
  have HJ := Lib.hid hJ
  have HX := Lib.hid hJx
  have HY := Lib.hid hY
  -- the world where the loop over the library's iterator begins
  have y1 := Boxed.new W 88 (.func (.yield l) #[] #[])
  have y2 := Boxed.new (W.alloc (.cells #[.func (.yield l) #[] #[]] 88)) 3 (.int .i64 0)
  have y3 := Boxed.new ((W.alloc (.cells #[.func (.yield l) #[] #[]] 88)).alloc (.cells #[.int .i64 0] 3)) 9 (.string (strOf s))
  simp only [World.size_alloc, hn] at y1 y2 y3
  have bWl := bW.lt
  have c1 := ((bW.alloc (.cells #[.func (.yield l) #[] #[]] 88)).alloc (.cells #[.int .i64 0] 3)).cell
  have HN := Lib.hid hn
  clear hJ hJx hY hW hB bW
  refine callsIn_wide.2 ((callsIn_wide (n := 1)).1 ?_)
  refine callsIn_of_wp_marks Tryd.func42 rfl trivial ?_ rfl
  simp only [Tryd.ntmps42, List.size_toArray, List.length_cons, List.length_nil, Nat.reduceAdd, Nat.reduceSub, Array.replicate_succ, Array.replicate_zero, List.push_toArray, List.append_toArray, List.nil_append, List.cons_append]
  gi_wp2_with (refine ⟨trivial, ?_⟩; gi_at_call 43; refine (strLines_in _ _ _).mono ?_; rintro e w' ⟨rfl, rfl⟩)
  obtain ⟨W0, hW0⟩ : ∃ W0, ((W.alloc (.cells #[.func (.yield l) #[] #[]] 88)).alloc (.cells #[.int .i64 0] 3)).alloc (.cells #[.string (strOf s)] 9) = W0 := ⟨_, rfl⟩
  have z1 := (y1.alloc (.cells #[.int .i64 0] 3)).alloc (.cells #[.string (strOf s)] 9)
  have z2 := y2.alloc (.cells #[.string (strOf s)] 9)
  have hsz : (((W.alloc (.cells #[.func (.yield l) #[] #[]] 88)).alloc (.cells #[.int .i64 0] 3)).alloc (.cells #[.string (strOf s)] 9)).heap.size = n + 3 := by simp only [World.size_alloc, HN.out]
  have j0 := HJ.out.grown (HJ.out.grown (HJ.out.grown h0 (World.grownBy_alloc _ (.cells #[.func (.yield l) #[] #[]] 88) none)) (World.grownBy_alloc _ (.cells #[.int .i64 0] 3) none)) (World.grownBy_alloc _ (.cells #[.string (strOf s)] 9) none)
  rw [hW0] at z1 z2 y3 hsz j0 ⊢
  clear hW0 y1 y2 h0 c1
  refine range_soft (own := fun r => r = n + 1 + 1) (by omega) (gf := 60) (lb := #[.pointer (some ⟨n + 1 + 1, 0, none⟩)]) rfl (enters_of Tryd.func60 (by kernel_rfl) rfl)
    (str_lines (b := n) (by omega) hs y3) kpT_t (fun V o o' hl ho B v _ hv => boxed_put hl ho hv) (Below.refl _ _) (fun _ => rfl)
    (fun pre V => (J (pre.zipIdx 1) V ∧ Boxed V (n + 1) 3 (.int .i64 ((pre.length : Nat) : Int))) ∧ Boxed V n 88 (.func (.yield l) #[] #[]))
    (fun c pre V => c = .ret ∧ Jx (pre.zipIdx 1) V)
    (Abd.and (Abd.and (fun s X Y row hs hg hr => HJ.out _ X Y row hs hg (fun r e => ⟨.inr (by rcases (hr r e).1 with h | h <;> omega), (hr r e).2⟩)) (abd_box (by omega) _ _)) (abd_box (by omega) _ _))
    (fun c => Abd.and (abd_pure _ _) (fun s X Y row hs hg hr => HX.out _ X Y row hs hg (fun r e => ⟨.inr (by rcases (hr r e).1 with h | h <;> omega), (hr r e).2⟩)))
    ⟨⟨j0, z2⟩, z1⟩
    (fun x a' _ => a' = { tmps := #[.func (.yield l) #[] #[], .pointer (some ⟨B, 0, none⟩), .pointer (some ⟨n, 0, none⟩), .pointer (some ⟨n + 1, 0, none⟩), .string (strOf x), .string (strOf s), .func (.func 60) #[] #[.pointer (some ⟨n + 1 + 1, 0, none⟩)], .string (strOf x), undef, undef, undef, undef, undef, undef, undef], defers := [] })
    (fun _ _ _ _ _ h _ _ => h) ?assign ?body ?done ?stop
  case assign =>
    rintro l2 pre x V K hI hK
    gi_wp2
    exact hK _ _ (KeepsFrom.refl _ _) (fun _ _ _ h => h) hI rfl
  case body =>
    rintro l2 pre x a' V ⟨⟨hj, hN⟩, hF⟩ rfl hsp
    have hlen : pre.length + 1 ≤ 100000 := by
      have h1 := hsp.length_le
      have h2 := spl_len s
      simp only [List.length_append, List.length_cons, List.length_nil] at h1
      omega
    have hsp' : pre.zipIdx 1 ++ [(x, pre.length + 1)] <+: (spl s).zipIdx 1 := by rw [← zip_snoc]; exact zip_pre hsp
    have j1 := HJ.out _ V _ (some (n + 1)) hj (grownBy_setCell' V (n + 1) (.int .i64 ((pre.length : Int) + 1))) (fun q e => by cases e; exact ⟨.inr (by omega), soft_int hN⟩)
    have n1 := hN.set (.int .i64 ((pre.length : Int) + 1))
    have f1 := hF.other (B' := n + 1) (by omega) (.int .i64 ((pre.length : Int) + 1))
    obtain ⟨fn, tmps, asg, body, hy, hR⟩ := HY.out _ (x, pre.length + 1) _ j1 hsp'
    dsimp only at hy
    rw [show ((pre.length + 1 : Nat) : Int) = (pre.length : Int) + 1 from rfl] at hy
    have k1 := hN.cell
    have k2 := hN.frozen
    have k3 := n1.cell
    have k4 := f1.cell
    have HK := Lib.hid (And.intro n1 (And.intro f1 (And.intro hN (zip_snoc pre x))))
    have HL := Lib.hid (show (pre ++ [x]).length = pre.length + 1 by simp)
    have hb : (pre.length : Int) ≤ 100000 := by omega
    clear hj hN hF hsp hsp' j1 n1 f1 hlen
    generalize pre.length = m at *
    gi_wp2
    refine ⟨rfl, RoundIn.mono hR ?_⟩
    rintro e V3 ⟨h3, hk⟩
    have HB := Lib.hid (show (KeepsFrom W0.heap.size V V3 ∧ KpT n V V3) ∧ Boxed V3 (n + 1) 3 (.int .i64 (((m + 1 : Nat)) : Int)) ∧ Boxed V3 n 88 (.func (.yield l) #[] #[]) from
      ⟨⟨((KeepsOthers.setCell V ⟨n + 1, 0, none⟩ (.int .i64 ((m : Int) + 1))).from _).trans (keepsFrom_mono hk.1 (by omega)), fun Bx v hBx hv => hk.2 Bx _ v (by omega) (by decide) (hv.other (fun e => by subst e; have h1 := HK.out.2.2.1; unfold Boxed at h1 hv; rw [hv] at h1; cases h1) _)⟩, hk.2 _ _ _ (by omega) (by decide) HK.out.1, hk.2 _ _ _ hc (by decide) HK.out.2.1⟩)
    clear hk hR hy
    rcases h3 with ⟨rfl, h3⟩ | ⟨rfl, h3⟩
    · have H3 := Lib.hid h3
      clear h3
      gi_wp2
      exact ⟨HB.out.1, ⟨by rw [HK.out.2.2.2]; exact H3.out, by rw [HL.out]; exact HB.out.2.1⟩, HB.out.2.2⟩
    · have H3 := Lib.hid h3
      clear h3
      gi_wp2
      exact ⟨HB.out.1, rfl, by rw [HK.out.2.2.2]; exact H3.out⟩
  case done =>
    rintro D ys V hD rfl ⟨⟨hj, hN⟩, hF⟩ hK
    have hf := Lib.hid (HJ.out.put (.deferred none) hj (.inr (by omega)) hK rfl)
    clear hj hN hF
    gi_wp2
    refine ⟨by simp, .inl ⟨_, _, rfl, run_takeDeferred hK, ?_⟩⟩
    exact ⟨_, results_none rfl _ _ _, ⟨_, rfl⟩, .inl ⟨_, rfl, hf.out⟩⟩
  case stop =>
    rintro D c pre V hD hpre ⟨rfl, hx⟩ hK
    have hf := Lib.hid (HX.out.put (.deferred none) hx (.inr (by omega)) hK rfl)
    have hp := Lib.hid (zip_pre hpre)
    clear hx hpre
    gi_wp2
    refine ⟨by simp, .inl ⟨_, _, rfl, run_takeDeferred hK, ?_⟩⟩
    exact ⟨_, results_none rfl _ _ _, ⟨_, rfl⟩, .inr ⟨_, hp.out, hf.out⟩⟩
end Go.Proofs.YtjdjkdgdbdenpaaDoor
