/- The program: valid trees. -/
import Derived.MapKept
import Derived.Test.YtimbiobonigdmaaGreatDoorM08
import Derived.Test.YtimbiobonigdmaaGreatDoorM09
import Derived.Test.YtimbiobonigdmaaGreatDoorM10
import Derived.Test.YtimbiobonigdmaaGreatDoorM06
import Derived.Test.YtimbiobonigdmaaGreatDoorKit
import Derived.Test.YtimbiobonigdmaaGreatDoorFoa
import Derived.Test.YtimbiobonigdmaaGreatDoorM01
set_option linter.unusedVariables false
set_option linter.unusedSimpArgs false
set_option linter.unusedVariables false
set_option linter.unusedSimpArgs false
namespace Go.Proofs.YtimbiobonigdmaaGreatDoor
open Go Go.RowKit L8 L10

theorem dec_nat (a b : Nat) : decide ((a : Int) ≤ (b : Int)) = decide (a ≤ b) := by by_cases h : a ≤ b <;> simp [h]
theorem mayAlone_any (e : Ex) (A : Option Addr) (n c : Nat) (w : World) (hn : e.l.length = n) (ok : OKe e) (ht : T10 w) : Calls Tryz.prog 69 #[exV e A n c] w fun en w' => en = .returned (.bool (ownE e)) ∧ Below w.heap.size w w' := by
  have hV : Below w.heap.size w (w.alloc (.cells (exC e A n c) 27)) := bal (b0 w) _
  have hk : e.k < 256 := ok.1
  rw [own_fm e ⟨ok.2.2.2.1, ok.2.2.2.2.1⟩]
  by_cases h0 : e.k = 0 ∨ 10 ≤ e.k
  · rw [if_pos h0]
    exact mayAlone_out e A n c w hk h0
  rw [if_neg h0]
  have hF := (ht.below hV).form (k := e.k) (by omega)
  have g0 := hF 0 (by decide)
  have g1 := hF 1 (by decide)
  have g2 := hF 2 (by decide)
  have g3 := hF 3 (by decide)
  have g4 := hF 4 (by decide)
  have g5 := hF 5 (by decide)
  have g6 := hF 6 (by decide)
  have g7 := hF 7 (by decide)
  have q0 : ((e.k : Int) == 0) = false := (nat_eq10 e.k 0).trans (decide_eq_false (by omega))
  have CN := Lib.hid (fun (W : World) => Name_any e.s ok.2.2.2.2.2 W)
  have qs : (strOf e.s).toList.isEmpty = decide (e.s = []) := by rw [strOf_empty]; cases e.s <;> rfl
  unfold fmB
  rw [hn]
  generalize fm e.k = F at *
  obtain ⟨a0, a1, a2, a3, a4, a5, a6, a7⟩ := F
  dsimp only [fmC] at *
  simp only [List.getElem?_cons_zero, List.getElem?_cons_succ, Nat.add_zero] at g0 g1 g2 g3 g4 g5 g6 g7
  have HB : Hid (∀ bb : Bool, Below w.heap.size w ((w.alloc (.cells (exC e A n c) 27)).alloc (.cells #[.int .i32 a0, .int .i32 a1, .int .u8 (a2 : Int), .int .u8 (a3 : Int), .int .u8 (a4 : Int), .int .u8 (a5 : Int), .bool bb, .int .i64 (a7 : Int)] 114))) := Lib.hid fun bb => bal hV _
  have u2 := dec_nat a2 e.o
  have u3 := dec_nat e.o a3
  have u4 := dec_nat a4 e.t
  have u5 := dec_nat e.t a5
  have d7 := nat_eq10 n a7
  obtain ⟨p0, d0⟩ : ∃ p, decide (a0 ≤ e.n) = p := ⟨_, rfl⟩
  obtain ⟨p1, d1⟩ : ∃ p, decide (e.n ≤ a1) = p := ⟨_, rfl⟩
  obtain ⟨p2, d2⟩ : ∃ p, decide (a2 ≤ e.o) = p := ⟨_, rfl⟩
  obtain ⟨p3, d3⟩ : ∃ p, decide (e.o ≤ a3) = p := ⟨_, rfl⟩
  obtain ⟨p4, d4⟩ : ∃ p, decide (a4 ≤ e.t) = p := ⟨_, rfl⟩
  obtain ⟨p5, d5⟩ : ∃ p, decide (e.t ≤ a5) = p := ⟨_, rfl⟩
  obtain ⟨p7, d7'⟩ : ∃ p, decide (n = a7) = p := ⟨_, rfl⟩
  rw [d2] at u2
  rw [d3] at u3
  rw [d4] at u4
  rw [d5] at u5
  rw [d7'] at d7
  rw [d0, d1, d2, d3, d4, d5, d7']
  have hk1 : (1 : Int) ≤ (e.k : Int) := by omega
  have hk9 : (e.k : Int) < 10 := by omega
  cases p0
  · exact mayAlone_row0 e A n c w hk1 hk9 a0 a1 a2 a3 a4 a5 a7 a6 _ _ _ _ _ _ _ _ _ q0 d0 d1 u2 u3 u4 u5 d2 d3 d4 d5 d7 _ qs CN _ rfl (Lib.hid hV) g0 g1 g2 g3 g4 g5 g6 g7 HB rfl
  cases p1
  · exact mayAlone_row1 e A n c w hk1 hk9 a0 a1 a2 a3 a4 a5 a7 a6 _ _ _ _ _ _ _ _ _ q0 d0 d1 u2 u3 u4 u5 d2 d3 d4 d5 d7 _ qs CN _ rfl (Lib.hid hV) g0 g1 g2 g3 g4 g5 g6 g7 HB ⟨rfl, rfl⟩
  cases p2
  · exact mayAlone_row2 e A n c w hk1 hk9 a0 a1 a2 a3 a4 a5 a7 a6 _ _ _ _ _ _ _ _ _ q0 d0 d1 u2 u3 u4 u5 d2 d3 d4 d5 d7 _ qs CN _ rfl (Lib.hid hV) g0 g1 g2 g3 g4 g5 g6 g7 HB ⟨rfl, rfl, rfl⟩
  cases p3
  · exact mayAlone_row3 e A n c w hk1 hk9 a0 a1 a2 a3 a4 a5 a7 a6 _ _ _ _ _ _ _ _ _ q0 d0 d1 u2 u3 u4 u5 d2 d3 d4 d5 d7 _ qs CN _ rfl (Lib.hid hV) g0 g1 g2 g3 g4 g5 g6 g7 HB ⟨rfl, rfl, rfl, rfl⟩
  cases p4
  · exact mayAlone_row4 e A n c w hk1 hk9 a0 a1 a2 a3 a4 a5 a7 a6 _ _ _ _ _ _ _ _ _ q0 d0 d1 u2 u3 u4 u5 d2 d3 d4 d5 d7 _ qs CN _ rfl (Lib.hid hV) g0 g1 g2 g3 g4 g5 g6 g7 HB ⟨rfl, rfl, rfl, rfl, rfl⟩
  cases p5
  · exact mayAlone_row5 e A n c w hk1 hk9 a0 a1 a2 a3 a4 a5 a7 a6 _ _ _ _ _ _ _ _ _ q0 d0 d1 u2 u3 u4 u5 d2 d3 d4 d5 d7 _ qs CN _ rfl (Lib.hid hV) g0 g1 g2 g3 g4 g5 g6 g7 HB ⟨rfl, rfl, rfl, rfl, rfl, rfl⟩
  generalize isName e.s = bn at *
  generalize decide (e.s = []) = bs at *
  cases a6
  · cases bs
    · exact mayAlone_row8 e A n c w hk1 hk9 a0 a1 a2 a3 a4 a5 a7 false bn false _ _ _ _ _ _ _ q0 d0 d1 u2 u3 u4 u5 d2 d3 d4 d5 d7 _ qs CN _ rfl (Lib.hid hV) g0 g1 g2 g3 g4 g5 g6 g7 HB ⟨rfl, rfl, rfl, rfl, rfl, rfl, rfl, rfl⟩
    · exact mayAlone_row9 e A n c w hk1 hk9 a0 a1 a2 a3 a4 a5 a7 false bn true _ _ _ _ _ _ _ q0 d0 d1 u2 u3 u4 u5 d2 d3 d4 d5 d7 _ qs CN _ rfl (Lib.hid hV) g0 g1 g2 g3 g4 g5 g6 g7 HB ⟨rfl, rfl, rfl, rfl, rfl, rfl, rfl, rfl⟩
  · cases bn
    · exact mayAlone_row6 e A n c w hk1 hk9 a0 a1 a2 a3 a4 a5 a7 true false bs _ _ _ _ _ _ _ q0 d0 d1 u2 u3 u4 u5 d2 d3 d4 d5 d7 _ qs CN _ rfl (Lib.hid hV) g0 g1 g2 g3 g4 g5 g6 g7 HB ⟨rfl, rfl, rfl, rfl, rfl, rfl, rfl, rfl⟩
    · exact mayAlone_row7 e A n c w hk1 hk9 a0 a1 a2 a3 a4 a5 a7 true true bs _ _ _ _ _ _ _ q0 d0 d1 u2 u3 u4 u5 d2 d3 d4 d5 d7 _ qs CN _ rfl (Lib.hid hV) g0 g1 g2 g3 g4 g5 g6 g7 HB ⟨rfl, rfl, rfl, rfl, rfl, rfl, rfl, rfl⟩
end Go.Proofs.YtimbiobonigdmaaGreatDoor
/- Maps with strings as keys: what the block of a map holds, as a list. -/
set_option linter.unusedVariables false
set_option linter.unusedSimpArgs false
namespace Go.Proofs.YtimbiobonigdmaaGreatDoor
open Go Go.RowKit Go.MapKept L8

theorem g_any {a b : World} (h : a.grownBy b none) (r : Option Nat) : a.grownBy b r := ⟨h.os, h.tape, h.output, h.size, fun k hk _ => h.block k hk (by simp)⟩
theorem g_set (w : World) (b j : Nat) (v : Value) : w.grownBy (w.setCell ⟨b, j, none⟩ v) (some b) :=
  ⟨rfl, rfl, rfl, by show _ ≤ (w.heap.modify b _).size; rw [Array.size_modify]; exact Nat.le_refl _, fun k hk hr => Below.heap_setCell w ⟨b, j, none⟩ v k (fun e => hr (by rw [show k = b from e]))⟩
theorem g_refl (w : World) (r : Option Nat) : w.grownBy w r := g_any (g_of_below (b0 w)) r
theorem below_g {n b : Nat} {w w' : World} (h : w.grownBy w' (some b)) (hb : n ≤ b) (hn : n ≤ w.heap.size) : Below n w w' :=
  ⟨h.os, h.tape, h.output, h.size, fun k hk => h.block k (by omega) (fun e => by injection e with e; omega)⟩
def entC (p : Bs × Value) : Value × Value := (.string (strOf p.1), p.2)
def Ents (es : List MapEntry) (l : List (Bs × Value)) : Prop := es.map (fun e => (e.key, e.val)) = l.map entC
def fndL (s : Bs) : List (Bs × Value) → Nat → Option (Nat × Value)
  | [], _ => none
  | p :: r, i => if s = p.1 then some (i, p.2) else fndL s r (i + 1)
def getL : List (Bs × Value) → Bs → Option Value
  | [], _ => none
  | p :: r, s => if s = p.1 then some p.2 else getL r s
def putL : List (Bs × Value) → Bs → Value → List (Bs × Value)
  | [], s, v => [(s, v)]
  | p :: r, s, v => if s = p.1 then (s, v) :: r else p :: putL r s v
def delL : List (Bs × Value) → Bs → List (Bs × Value)
  | [], _ => []
  | p :: r, s => if s = p.1 then r else p :: delL r s
def keysL (l : List (Bs × Value)) : List Bs := l.map (·.1)
theorem get_fnd (s : Bs) : ∀ (l : List (Bs × Value)) (i : Nat), (fndL s l i).map (·.2) = getL l s
  | [], _ => rfl
  | p :: r, i => by
    rw [fndL, getL]
    by_cases h : s = p.1
    · rw [if_pos h, if_pos h]; rfl
    · rw [if_neg h, if_neg h]; exact get_fnd s r (i + 1)
theorem get_mem (s : Bs) : ∀ (l : List (Bs × Value)), getL l s = none ↔ ¬ s ∈ keysL l
  | [] => by simp [getL, keysL]
  | p :: r => by
    have ih := get_mem s r
    unfold keysL at ih ⊢
    rw [getL, List.map_cons, List.mem_cons]
    by_cases h : s = p.1
    · rw [if_pos h]; simp [h]
    · rw [if_neg h, ih]; simp [h]
theorem get_put (s : Bs) (v : Value) (t : Bs) : ∀ (l : List (Bs × Value)), getL (putL l s v) t = if t = s then some v else getL l t
  | [] => by rw [putL, getL]; rfl
  | p :: r => by
    have ih := get_put s v t r
    rw [putL]
    by_cases h : s = p.1
    · rw [if_pos h, getL]
      by_cases ht : t = s
      · rw [if_pos ht, if_pos ht]
      · rw [if_neg ht, if_neg ht, getL, if_neg (by rw [← h]; exact ht)]
    · rw [if_neg h, getL, getL, ih]
      by_cases ht : t = p.1
      · rw [if_pos ht, if_pos ht, if_neg (by rw [ht]; exact fun e => h e.symm)]
      · rw [if_neg ht, if_neg ht]
theorem keys_put (s : Bs) (v : Value) (t : Bs) : ∀ (l : List (Bs × Value)), t ∈ keysL (putL l s v) ↔ t = s ∨ t ∈ keysL l
  | [] => by simp [putL, keysL]
  | p :: r => by
    have ih := keys_put s v t r
    rw [putL]
    by_cases h : s = p.1
    · rw [if_pos h]; unfold keysL; simp [h]
    · rw [if_neg h]
      unfold keysL at ih ⊢
      rw [List.map_cons, List.mem_cons, ih, List.map_cons, List.mem_cons]
      constructor
      · rintro (h | h | h) <;> simp [h]
      · rintro (h | h | h) <;> simp [h]
theorem nodup_put (s : Bs) (v : Value) : ∀ (l : List (Bs × Value)), (keysL l).Nodup → (keysL (putL l s v)).Nodup
  | [], _ => by simp [putL, keysL]
  | p :: r, h => by
    have h2 : ¬ p.1 ∈ keysL r ∧ (keysL r).Nodup := List.nodup_cons.1 h
    rw [putL]
    by_cases hs : s = p.1
    · rw [if_pos hs]
      show (s :: keysL r).Nodup
      rw [hs]; exact h
    · rw [if_neg hs]
      show (p.1 :: keysL (putL r s v)).Nodup
      refine List.nodup_cons.2 ⟨fun hm => ?_, nodup_put s v r h2.2⟩
      rcases (keys_put s v _ r).1 hm with e | e
      · exact hs e.symm
      · exact h2.1 e
theorem del_sub (s t : Bs) : ∀ (l : List (Bs × Value)), t ∈ keysL (delL l s) → t ∈ keysL l
  | [], h => h
  | p :: r, h => by
    rw [delL] at h
    by_cases hs : s = p.1
    · rw [if_pos hs] at h; exact List.mem_cons_of_mem _ h
    · rw [if_neg hs] at h
      rcases List.mem_cons.1 h with h | h
      · exact List.mem_cons.2 (.inl h)
      · exact List.mem_cons_of_mem _ (del_sub s t r h)
theorem nodup_del (s : Bs) : ∀ (l : List (Bs × Value)), (keysL l).Nodup → (keysL (delL l s)).Nodup
  | [], h => h
  | p :: r, h => by
    have h2 : ¬ p.1 ∈ keysL r ∧ (keysL r).Nodup := List.nodup_cons.1 h
    rw [delL]
    by_cases hs : s = p.1
    · rw [if_pos hs]; exact h2.2
    · rw [if_neg hs]
      exact List.nodup_cons.2 ⟨fun hm => h2.1 (del_sub s _ r hm), nodup_del s r h2.2⟩
theorem get_del (s t : Bs) : ∀ (l : List (Bs × Value)), (keysL l).Nodup → getL (delL l s) t = if t = s then none else getL l t
  | [], _ => by rw [delL, getL]; simp
  | p :: r, h => by
    have h2 : ¬ p.1 ∈ keysL r ∧ (keysL r).Nodup := List.nodup_cons.1 h
    rw [delL]
    by_cases hs : s = p.1
    · rw [if_pos hs]
      by_cases ht : t = s
      · rw [if_pos ht, ht, hs]; exact (get_mem _ r).2 h2.1
      · rw [if_neg ht, getL, if_neg (by rw [← hs]; exact ht)]
    · rw [if_neg hs, getL, getL, get_del s t r h2.2]
      by_cases ht : t = p.1
      · rw [if_pos ht, if_pos ht, if_neg (by rw [ht]; exact fun e => hs e.symm)]
      · rw [if_neg ht, if_neg ht]
theorem len_del (s : Bs) : ∀ (l : List (Bs × Value)), (delL l s).length + (if (getL l s).isSome = true then 1 else 0) = l.length
  | [] => rfl
  | p :: r => by
    rw [delL, getL]
    by_cases hs : s = p.1
    · rw [if_pos hs, if_pos hs]; rfl
    · rw [if_neg hs, if_neg hs, List.length_cons, List.length_cons, ← len_del s r]; omega
theorem len_zero {l : List (Bs × Value)} : l.length = 0 ↔ ∀ s, getL l s = none := by
  constructor
  · intro h s
    rw [List.length_eq_zero_iff.1 h]; rfl
  · intro h
    cases l with
    | nil => rfl
    | cons p r =>
      have := h p.1
      rw [getL, if_pos rfl] at this
      cases this
/-! ### The block -/
theorem strOf_inj {a b : Bs} (h : strOf a = strOf b) : a = b := by
  have h2 := eqS a b
  rw [h] at h2
  simpa using h2
theorem beqS (a b : Bs) : (strOf a == strOf b) = decide (a = b) := by
  have e : (strOf a == strOf b) = ((strOf a).data == (strOf b).data) := rfl
  rw [e]
  by_cases h : a = b
  · rw [h, decide_eq_true rfl]; exact beq_self_eq_true _
  · rw [decide_eq_false h]
    refine beq_eq_false_iff_ne.2 fun e => h (strOf_inj ?_)
    cases ha : strOf a
    cases hb : strOf b
    rw [ha, hb] at e
    exact congrArg _ e
theorem find_now (s : Bs) : ∀ (es : List MapEntry) (l : List (Bs × Value)) (i : Nat), Ents es l → Instr.findNow .string (.string (strOf s)) es i = some (fndL s l i)
  | [], [], _, _ => rfl
  | [], _ :: _, _, h => by cases h
  | _ :: _, [], _, h => by cases h
  | e :: es, p :: r, i, h => by
    obtain ⟨h1, h2⟩ := List.cons.inj (show (e.key, e.val) :: es.map (fun e => (e.key, e.val)) = entC p :: r.map entC from h)
    obtain ⟨k1, k2⟩ := Prod.mk.inj (show (e.key, e.val) = (Value.string (strOf p.1), p.2) from h1)
    unfold Instr.findNow
    rw [k1, k2]
    simp only [Instr.sameNow, beqS]
    rw [fndL]
    by_cases hs : s = p.1
    · rw [if_pos hs, decide_eq_true hs]
    · rw [if_neg hs, decide_eq_false hs]
      exact find_now s es r (i + 1) h2
theorem fnd_at (s : Bs) : ∀ (l : List (Bs × Value)) (i j : Nat) (v : Value), fndL s l i = some (j, v) → ∃ k, j = i + k ∧ k < l.length ∧ (l[k]?).map (·.1) = some s ∧ (∀ x, putL l s x = l.set k (s, x)) ∧ delL l s = l.eraseIdx k
  | [], _, _, _, h => by cases h
  | p :: r, i, j, v, h => by
    rw [fndL] at h
    by_cases hs : s = p.1
    · rw [if_pos hs] at h
      injection h with h
      injection h with h _
      refine ⟨0, by omega, by simp, by simp [hs], fun x => ?_, ?_⟩
      · rw [putL, if_pos hs]; rfl
      · rw [delL, if_pos hs]; rfl
    · rw [if_neg hs] at h
      obtain ⟨k, h1, h2, h3, h4, h5⟩ := fnd_at s r (i + 1) j v h
      refine ⟨k + 1, by omega, by simpa using h2, by simpa using h3, fun x => ?_, ?_⟩
      · rw [putL, if_neg hs, h4]; rfl
      · rw [delL, if_neg hs, h5]; rfl
theorem fnd_none (s : Bs) : ∀ (l : List (Bs × Value)) (i : Nat), fndL s l i = none → (∀ x, putL l s x = l ++ [(s, x)]) ∧ delL l s = l
  | [], _, _ => ⟨fun _ => rfl, rfl⟩
  | p :: r, i, h => by
    rw [fndL] at h
    by_cases hs : s = p.1
    · rw [if_pos hs] at h; cases h
    · rw [if_neg hs] at h
      obtain ⟨h1, h2⟩ := fnd_none s r (i + 1) h
      exact ⟨fun x => by rw [putL, if_neg hs, h1]; rfl, by rw [delL, if_neg hs, h2]⟩
/-- Block b is a map of these entries. -/
def MapL (w : World) (b : Nat) (l : List (Bs × Value)) : Prop := ∃ es clock, w.heap[b]? = some (.map es clock) ∧ Ents es.toList l ∧ (keysL l).Nodup
theorem MapL.new (w : World) : MapL (w.alloc (.map #[] 0)) w.heap.size [] := ⟨#[], 0, World.alloc_heap_new w _, rfl, by simp [keysL]⟩
theorem MapL.lt {w : World} {b : Nat} {l : List (Bs × Value)} (h : MapL w b l) : b < w.heap.size := by
  obtain ⟨es, clock, hb, _⟩ := h
  exact (Array.getElem?_eq_some_iff.1 hb).1
theorem MapL.nodup {w : World} {b : Nat} {l : List (Bs × Value)} (h : MapL w b l) : (keysL l).Nodup := by
  obtain ⟨_, _, _, _, h⟩ := h; exact h
theorem MapL.kept {w w' : World} {b : Nat} {l : List (Bs × Value)} {row : Option Nat} (h : MapL w b l) (g : w.grownBy w' row) (hb : some b ≠ row) : MapL w' b l := by
  have hl := h.lt
  obtain ⟨es, clock, h1, h2⟩ := h
  exact ⟨es, clock, (g.block b hl hb).trans h1, h2⟩
theorem MapL.below {w w' : World} {b : Nat} {l : List (Bs × Value)} (h : MapL w b l) (g : Below w.heap.size w w') : MapL w' b l := by
  have hl := h.lt
  obtain ⟨es, clock, h1, h2⟩ := h
  exact ⟨es, clock, (g.block b hl).trans h1, h2⟩
theorem ents_len {es : List MapEntry} {l : List (Bs × Value)} (h : Ents es l) : es.length = l.length := by
  have := congrArg List.length h
  simpa using this
theorem ents_at {es : List MapEntry} {l : List (Bs × Value)} (h : Ents es l) (k : Nat) : (es[k]?).map (fun e => (e.key, e.val)) = (l[k]?).map entC := by
  have := congrArg (fun l => l[k]?) h
  simpa using this
theorem ents_set {es : List MapEntry} {l : List (Bs × Value)} (h : Ents es l) (k : Nat) (s : Bs) (v : Value) : Ents (es.modify k fun e => { e with key := .string (strOf s), val := v }) (l.set k (s, v)) := by
  unfold Ents at *
  apply List.ext_getElem?
  intro j
  have hj := congrArg (fun l => l[j]?) h
  simp only [List.getElem?_map, List.getElem?_modify, List.getElem?_set] at hj ⊢
  by_cases e : k = j
  · subst e
    have hl : k < es.length ↔ k < l.length := by
      have := congrArg List.length h
      simp at this
      omega
    by_cases hk : k < es.length
    · have hk2 := hl.1 hk
      simp [hk, hk2, entC]
    · have hk2 : ¬ k < l.length := fun h => hk (hl.2 h)
      simp [hk, hk2]
  · simp only [if_neg e]
    simpa using hj
theorem ents_erase {es : List MapEntry} {l : List (Bs × Value)} (h : Ents es l) (k : Nat) : Ents (es.eraseIdx k) (l.eraseIdx k) := by
  unfold Ents at *
  have : ∀ {α β : Type} (f : α → β) (l : List α) (k : Nat), (l.eraseIdx k).map f = (l.map f).eraseIdx k := by
    intro α β f l
    induction l with
    | nil => intro k; simp
    | cons a r ih => intro k; cases k <;> simp [ih]
  rw [this, this, h]
section
variable {P : Program} {t k e : TypeId} {w : World} {b : Nat} {l : List (Bs × Value)}
theorem key_str (s : Bs) : IsKey .string (.string (strOf s)) := by simp [IsKey]
theorem run_look (ht : P.underlying t = some (.map k e)) (hk : P.underlying k = some .string) {z : Value} (hz : (zeroValue e).run P w = .ok z w) (h : MapL w b l) (s : Bs) : (Instr.lookup t (.map (some b)) (.string (strOf s)) false).run P w = .ok ((getL l s).getD z) w := by
  obtain ⟨es, clock, hb, he, hn⟩ := h
  have hf := find_now s es.toList l 0 he
  have hg := get_fnd s l 0
  cases hr : fndL s l 0 with
  | none =>
    rw [hr] at hf hg
    rw [← hg]
    simp [Instr.lookup, run_underlying ht, MapKept.run_getObj_map hb, run_checkKey hk (key_str s), run_findKey hk hf, hz, Result.andThen]
  | some jv =>
    rw [hr] at hf hg
    rw [← hg]
    simp [Instr.lookup, run_underlying ht, MapKept.run_getObj_map hb, run_checkKey hk (key_str s), run_findKey hk hf, Result.andThen]
theorem run_put (ht : P.underlying t = some (.map k e)) (hk : P.underlying k = some .string) (h : MapL w b l) (s : Bs) (v : Value) : ∃ w', (Instr.mapUpdate t (.map (some b)) (.string (strOf s)) v).run P w = .ok () w' ∧ MapL w' b (putL l s v) ∧ w.grownBy w' (some b) := by
  obtain ⟨es, clock, hb, he, hn⟩ := h
  have hf := find_now s es.toList l 0 he
  have gr : ∀ o : Obj, w.grownBy { w with heap := w.heap.setIfInBounds b o } (some b) := fun o => ⟨rfl, rfl, rfl, by simp, fun i _ hi => (heap_set hb).2 i (fun e => hi (by rw [e]))⟩
  cases hr : fndL s l 0 with
  | none =>
    rw [hr] at hf
    refine ⟨{ w with heap := w.heap.setIfInBounds b (.map (es.push { key := .string (strOf s), val := v, born := clock }) (clock + 1)) }, ?_, ⟨_, _, (heap_set hb).1, ?_, nodup_put s v l hn⟩, gr _⟩
    · simp [Instr.mapUpdate, run_underlying ht, MapKept.run_getObj_map hb, run_checkKey hk (key_str s), run_findKey hk hf, run_setObj_map _ hb, Result.andThen]
    · rw [(fnd_none s l 0 hr).1]
      unfold Ents at *
      rw [Array.toList_push, List.map_append, he, List.map_append]
      rfl
  | some jv =>
    obtain ⟨j, u⟩ := jv
    obtain ⟨i, h1, h2, h3, h4, h5⟩ := fnd_at s l 0 j u hr
    obtain rfl : j = i := by omega
    rw [hr] at hf
    have hj := ents_at he j
    rw [List.getElem?_eq_getElem h2] at hj h3
    have hlen := ents_len he
    have hje : j < es.size := by rw [← Array.length_toList]; omega
    have hkey : (es[j]?.map (·.key)).getD (.string (strOf s)) = .string (strOf s) := by
      have : es.toList[j]? = es[j]? := by simp
      rw [this] at hj
      rw [Array.getElem?_eq_getElem hje] at hj ⊢
      simp only [Option.map_some, Option.some.injEq] at hj h3
      have := congrArg Prod.fst hj
      simp only [entC] at this
      rw [h3] at this
      simpa using this
    refine ⟨{ w with heap := w.heap.setIfInBounds b (.map (es.modify j fun e => { e with key := .string (strOf s), val := v }) clock) }, ?_, ⟨_, _, (heap_set hb).1, ?_, nodup_put s v l hn⟩, gr _⟩
    · simp [Instr.mapUpdate, run_underlying ht, MapKept.run_getObj_map hb, run_checkKey hk (key_str s), run_findKey hk hf, hkey, run_keyThatStays (key_str s), run_setObj_map _ hb, Result.andThen]
    · rw [h4, Array.toList_modify]
      exact ents_set he j s v
theorem run_del {st : TypeId} (ht : P.underlying t = some (.map k e)) (hk : P.underlying k = some .string) (h : MapL w b l) (s : Bs) : ∃ w', (∀ ty : TypeId, (Builtin.delete_ #[t, st] ty #[.map (some b), .string (strOf s)]).run P w = .ok (.tuple #[]) w') ∧ MapL w' b (delL l s) ∧ w.grownBy w' (some b) := by
  obtain ⟨es, clock, hb, he, hn⟩ := h
  have hf := find_now s es.toList l 0 he
  have gr : ∀ o : Obj, w.grownBy { w with heap := w.heap.setIfInBounds b o } (some b) := fun o => ⟨rfl, rfl, rfl, by simp, fun i _ hi => (heap_set hb).2 i (fun e => hi (by rw [e]))⟩
  cases hr : fndL s l 0 with
  | none =>
    rw [hr] at hf
    refine ⟨{ w with heap := w.heap.setIfInBounds b (.map es clock) }, ?_, ⟨_, _, (heap_set hb).1, ?_, nodup_del s l hn⟩, gr _⟩
    · intro ty
      simp [Builtin.delete_, run_underlying ht, MapKept.run_getObj_map hb, run_checkKey hk (key_str s), run_findKey hk hf, run_setObj_map _ hb, Result.andThen]
    · rw [(fnd_none s l 0 hr).2]; exact he
  | some jv =>
    obtain ⟨j, u⟩ := jv
    obtain ⟨i, h1, h2, h3, h4, h5⟩ := fnd_at s l 0 j u hr
    obtain rfl : j = i := by omega
    rw [hr] at hf
    refine ⟨{ w with heap := w.heap.setIfInBounds b (.map (es.eraseIdxIfInBounds j) clock) }, ?_, ⟨_, _, (heap_set hb).1, ?_, nodup_del s l hn⟩, gr _⟩
    · intro ty
      simp [Builtin.delete_, run_underlying ht, MapKept.run_getObj_map hb, run_checkKey hk (key_str s), run_findKey hk hf, run_setObj_map _ hb, Result.andThen]
    · rw [h5, Array.toList_eraseIdxIfInBounds]
      exact ents_erase he j
theorem run_mlen {ty : TypeId} (ht : P.underlying t = some (.map k e)) (h : MapL w b l) : (Builtin.len_ #[t] ty #[.map (some b)]).run P w = .ok (.int .i64 l.length) w := by
  obtain ⟨es, clock, hb, he, hn⟩ := h
  have hlen := ents_len he
  rw [← hlen, Array.length_toList]
  simp [Builtin.len_, run_underlying ht, MapKept.run_getObj_map hb, goInt]
end
end Go.Proofs.YtimbiobonigdmaaGreatDoor
/- The program: valid trees (the count), the tokens of a tree. -/
set_option linter.unusedVariables false
set_option linter.unusedSimpArgs false
namespace Go.Proofs.YtimbiobonigdmaaGreatDoor
open Go Go.RowKit L8 L10

/-- The count's box holds s; what is read does not lie in it. -/
structure CkS (w wr : World) (b : Nat) (A : Option Addr) (c : Nat) (l : List Ex) (s : Nat) : Prop where
  grw : w.grownBy wr (some b)
  box : BoxS wr b 71 #[.int .i64 (s : Int)]
  tr : TrN wr (fun k => k ≠ b) A c l
  t10 : T10 wr
theorem CkS.below {w wr wx : World} {b c s : Nat} {A : Option Addr} {l : List Ex} (h : CkS w wr b A c l s) (k : Below wr.heap.size wr wx) : CkS w wx b A c l s := ⟨g_trans h.grw (g_any (g_of_below k) _), h.box.below k, h.tr.keep k, h.t10.below k⟩
theorem CkS.grow {w wr wx : World} {b c s s' : Nat} {A : Option Addr} {l : List Ex} (h : CkS w wr b A c l s) (g : wr.grownBy wx (some b)) (k : BoxS wx b 71 #[.int .i64 (s' : Int)]) : CkS w wx b A c l s' :=
  ⟨g_trans h.grw g, k, h.tr.grow g fun j hj e => by injection e with e; exact hj e, h.t10.grow g h.box (.inl rfl)⟩
theorem CkS.set {w wr : World} {b c s : Nat} {A : Option Addr} {l : List Ex} (h : CkS w wr b A c l s) (q : Nat) : CkS w (wr.setCell ⟨b, 0, none⟩ (.int .i64 (q : Int))) b A c l q := by
  refine h.grow (g_set wr b 0 _) ?_
  have := boxset h.box 0 (.int .i64 (q : Int))
  simpa using this
set_option maxRecDepth 100000 in
set_option maxHeartbeats 8000000 in
theorem cmay_any : ∀ e : Ex, ∀ (A : Option Addr) (n c i s b : Nat) (w : World), TrN w (fun k => k ≠ b) A c e.l → e.l.length = n → OKe e → T10 w → BoxS w b 71 #[.int .i64 (s : Int)] → i ≤ 32 → s ≤ 256 → Calls Tryz.prog 30 #[.pointer (some ⟨b, 0, none⟩), exV e A n c, .int .i64 ((i : Int) + 1)] w fun en w' => en = .returned (.bool (decide (0 ≤ roomE e i (256 - (s : Int))))) ∧ w.grownBy w' (some b) ∧ (∀ u : Nat, roomE e i (256 - (s : Int)) = 256 - (u : Int) → u ≤ 256 → BoxS w' b 71 #[.int .i64 (u : Int)]) := by
  refine Ex.ind fun e ih A n c i s b w R hn hok ht hbx hi hs => ?_
  have hnx : n ≤ maxLen := by have := R.le; have := R.mx; omega
  unfold maxLen at hnx
  have hb := hbx.lt
  have H0 : CkS w w b A c e.l s := ⟨g_refl w _, hbx, R, ht⟩
  have HV : Hid (CkS w ((w.setCell ⟨b, 0, none⟩ (.int .i64 ((s + 1 : Nat) : Int))).alloc (.cells (exC e A n c) 27)) b A c e.l (s + 1)) := Lib.hid ((H0.set (s + 1)).below (bal (b0 _) _))
  have hr := roomE_eq e i (256 - (s : Int))
  have x0 : (w.alloc (.cells (exC e A n c) 27)).cell? ⟨b, 0, none⟩ = some (.int .i64 (s : Int)) := ((hbx.below (bal (b0 w) _)).cell 0).trans rfl
  have f0 : (w.alloc (.cells (exC e A n c) 27)).frozen? ⟨b, 0, none⟩ = false := (hbx.below (bal (b0 w) _)).frozen 0
  have hs0 : (0 : Int) ≤ (s : Int) := by omega
  have hs1 : (s : Int) ≤ 256 := by omega
  have hi0 : (0 : Int) ≤ (i : Int) := by omega
  have hi32 : (i : Int) ≤ 32 := by omega
  have hc : ((s + 1 : Nat) : Int) = (s : Int) + 1 := by omega
  rw [hc] at HV
  have HFalse : Hid (∀ W : World, w.grownBy W (some b) → roomE e i (256 - (s : Int)) = -1 → (Ending.returned (.bool false) = Ending.returned (.bool (decide (0 ≤ roomE e i (256 - (s : Int))))) ∧ w.grownBy W (some b) ∧ (∀ u : Nat, roomE e i (256 - (s : Int)) = 256 - (u : Int) → u ≤ 256 → BoxS W b 71 #[.int .i64 (u : Int)]))) := Lib.hid fun W g h => ⟨by rw [h]; rfl, g, fun u hu h2 => by omega⟩
  have x1 : ((w.setCell ⟨b, 0, none⟩ (.int .i64 ((s : Int) + 1))).alloc (.cells (exC e A n c) 27)).cell? ⟨b, 0, none⟩ = some (.int .i64 ((s : Int) + 1)) := by
    have := (HV.out.box.cell 0).trans rfl
    rwa [hc] at this
  have hsz : (w.setCell ⟨b, 0, none⟩ (.int .i64 ((s : Int) + 1))).heap.size = w.heap.size := by show (w.heap.modify b _).size = _; rw [Array.size_modify]
  have y5 : Hid (BoxS ((w.setCell ⟨b, 0, none⟩ (.int .i64 ((s : Int) + 1))).alloc (.cells (exC e A n c) 27)) w.heap.size 27 (exC e A n c)) := Lib.hid (by have := boxS_new (w.setCell ⟨b, 0, none⟩ (.int .i64 ((s : Int) + 1))) 27 (exC e A n c); rwa [hsz] at this)
  by_cases hz : s = 256
  · have hr1 := Lib.hid (show roomE e i (256 - (s : Int)) = -1 by rw [hr, if_pos (.inr (.inl (by omega)))])
    have hlt : 256 < (s : Int) + 1 := by omega
    clear ih R hok H0 hr hz hc ht hbx hn y5 hsz
    generalize hF : roomE e i (256 - (s : Int)) = F at *
    clear hF
    dsimp only [exV, exC] at *
    generalize strOf e.s = S at *
    go_enter Tryz.func30, Tryz.ntmps30
    go_wp2
    go_ret
    exact HFalse.out _ HV.out.grw hr1.out
  have hs2 : ¬ 256 < (s : Int) + 1 := by omega
  by_cases h32 : i = 32
  · have hr1 := Lib.hid (show roomE e i (256 - (s : Int)) = -1 by rw [hr, if_pos (.inl h32)])
    have hlt : 32 < (i : Int) + 1 := by omega
    clear ih R hok H0 hr hz hc ht hbx hn y5 hsz h32
    generalize hF : roomE e i (256 - (s : Int)) = F at *
    clear hF
    dsimp only [exV, exC] at *
    generalize strOf e.s = S at *
    go_enter Tryz.func30, Tryz.ntmps30
    go_wp2
    go_ret
    exact HFalse.out _ HV.out.grw hr1.out
  have hi2 : ¬ 32 < (i : Int) + 1 := by omega
  have hle1 : (s : Int) + 1 ≤ 256 := by omega
  have hle2 : (i : Int) + 1 ≤ 32 := by omega
  have CO := Lib.hid (fun (W : World) (h : T10 W) => mayAlone_any e A n c W hn hok h)
  have HOwn : Hid (∀ W, Below ((w.setCell ⟨b, 0, none⟩ (.int .i64 ((s : Int) + 1))).alloc (.cells (exC e A n c) 27)).heap.size ((w.setCell ⟨b, 0, none⟩ (.int .i64 ((s : Int) + 1))).alloc (.cells (exC e A n c) 27)) W → BoxS W w.heap.size 27 (exC e A n c) ∧ CkS w W b A c e.l (s + 1)) := Lib.hid fun W k => ⟨y5.out.below k, HV.out.below k⟩
  obtain ⟨z0, z1, z2, z3, z4, z5⟩ := box6 y5.out
  cases ho : ownE e with
  | false =>
    have hr1 := Lib.hid (show roomE e i (256 - (s : Int)) = -1 by rw [hr, if_pos (.inr (.inr ho))])
    rw [ho] at CO
    clear ih R hok H0 hr hz hc ht hbx hn y5 hsz h32 ho
    generalize hF : roomE e i (256 - (s : Int)) = F at *
    clear hF
    dsimp only [exV, exC] at *
    generalize strOf e.s = S at *
    go_enter Tryz.func30, Tryz.ntmps30
    go_wp2_with (go_at_call 69; (with_reducible refine (CO.out _ HV.out.t10).mono ?_); rintro en w2 ⟨rfl, k⟩; have H2 := Lib.hid (HV.out.below k); clear k)
    go_ret
    exact HFalse.out _ H2.out.grw hr1.out
  | true =>
    have hr2 : roomE e i (256 - (s : Int)) = roomL e.l (i + 1) (256 - ((s + 1 : Nat) : Int)) := by rw [hr, if_neg (fun h => h.elim h32 fun h => h.elim (by omega) fun h => by rw [ho] at h; cases h)]; congr 1; omega
    rw [ho] at CO
    have IH2 : Hid (∀ j, j < n → ∀ (B : Option Addr) (m d t : Nat) (X : World), CkS w X b A c e.l t → TrN X (fun k => k ≠ b) B d (e.l.getD j e0).l → (e.l.getD j e0).l.length = m → OKe (e.l.getD j e0) → t ≤ 256 → Calls Tryz.prog 30 #[.pointer (some ⟨b, 0, none⟩), exV (e.l.getD j e0) B m d, .int .i64 ((i : Int) + 1 + 1)] X fun en w' => en = .returned (.bool (decide (0 ≤ roomE (e.l.getD j e0) (i + 1) (256 - (t : Int))))) ∧ X.grownBy w' (some b) ∧ (∀ u : Nat, roomE (e.l.getD j e0) (i + 1) (256 - (t : Int)) = 256 - (u : Int) → u ≤ 256 → BoxS w' b 71 #[.int .i64 (u : Int)])) := Lib.hid fun j hj B m d t X h R2 hm ok ht2 => by
      have := ih _ (getD_memE (by omega)) B m d (i + 1) t b X R2 hm ok h.t10 h.box (by omega) ht2
      rwa [show ((i + 1 : Nat) : Int) = (i : Int) + 1 by omega] at this
    have HS := Lib.hid (fun (j : Nat) (lf : Int) (h : j < n) => show roomL (e.l.drop j) (i + 1) lf = if roomE (e.l.getD j e0) (i + 1) lf < 0 then -1 else roomL (e.l.drop (j + 1)) (i + 1) (roomE (e.l.getD j e0) (i + 1) lf) by rw [drop_one (by omega), roomL])
    have HR := Lib.hid (fun (j : Nat) (lf : Int) (h : 0 ≤ lf) => room_rng (e.l.getD j e0) (i := i + 1) (left := lf) (by omega) h)
    have HEnd := Lib.hid (fun (lf : Int) => show roomL (e.l.drop n) (i + 1) lf = lf by rw [← hn, List.drop_length, roomL])
    have HF := Lib.hid hr2
    have HN := Lib.hid hn
    clear ih R hok H0 hr hz hc ht hbx hn y5 hsz h32 ho hr2
    generalize hF : roomE e i (256 - (s : Int)) = F at *
    clear hF
    dsimp only [exV, exC] at *
    generalize hS : strOf e.s = S at *
    clear hS
    go_enter Tryz.func30, Tryz.ntmps30
    go_wp2_with (go_at_call 69; (with_reducible refine (CO.out _ HV.out.t10).mono ?_); rintro en w2 ⟨rfl, k⟩; have H2 := Lib.hid (HOwn.out _ k); clear k z0 z1 z2 z3 z4 z5; obtain ⟨z0, z1, z2, z3, z4, z5⟩ := box6 H2.out.1)
    go_loopw [33] (fun ι wr => ∃ (j t : Nat), j ≤ n ∧ ι = .int .i64 j ∧ t ≤ 256 ∧ F = roomL (e.l.drop j) (i + 1) (256 - (t : Int)) ∧ Hid (CkS w wr b A c e.l t)) (fun ι _ => n - (intOf ι).toNat)
    case atStart => exact ⟨0, s + 1, Nat.zero_le _, rfl, by omega, HF.out, Lib.hid H2.out.2⟩
    case round =>
      obtain ⟨j, t, hj, rfl, ht, hF, H⟩ := hrel
      have hj0 : (0 : Int) ≤ (j : Int) := by omega
      by_cases hlt : (j : Int) < (n : Int)
      · obtain ⟨ad, rfl, _, B, m, d, hm, hok, Rc, x0, x1, x2, x3, x4, x5⟩ := H.out.tr.at (j := j) (by have := HN.out; omega)
        have h1 := HS.out j (256 - (t : Int)) (by omega)
        have h2 := HR.out j (256 - (t : Int)) (by omega)
        rw [h1] at hF
        have C := Lib.hid (fun (V : World) (h : Below wr.heap.size wr V) => IH2.out j (by omega) B m d t V (H.out.below h) (Rc.keep h) hm hok ht)
        clear Rc hm hok h1
        generalize roomE (e.l.getD j e0) (i + 1) (256 - (t : Int)) = u at *
        generalize e.l.getD j e0 = y at *
        generalize strOf y.s = SY at *
        obtain ⟨u0, u1⟩ := h2
        have C2 := Lib.hid (C.out (wr.alloc (.cells #[.int .u8 (y.k : Int), .int .u8 (y.o : Int), .int .u8 (y.t : Int), .int .i32 y.n, .string SY, .slice B m d] 27)) (bal (b0 wr) _))
        have hA := Lib.hid (H.out.below (bal (b0 wr) (.cells #[.int .u8 (y.k : Int), .int .u8 (y.o : Int), .int .u8 (y.t : Int), .int .i32 y.n, .string SY, .slice B m d] 27)))
        clear C
        by_cases hu : u < 0
        · rw [if_pos hu] at hF
          rw [decide_eq_false (show ¬ 0 ≤ u by omega)] at C2
          have HE := Lib.hid hF
          clear hF
          go_wp2_with (go_at_call 30; (with_reducible refine (C2.out).mono ?_); rintro e1 w3 ⟨rfl, g, _⟩; have H3 := Lib.hid (g_trans hA.out.grw g); clear g)
          go_ret
          exact HFalse.out _ H3.out HE.out
        · rw [if_neg hu] at hF
          rw [decide_eq_true (show 0 ≤ u by omega)] at C2
          obtain ⟨v, hv⟩ : ∃ v : Nat, u = 256 - (v : Int) := ⟨(256 - u).toNat, by omega⟩
          have HE := Lib.hid (show F = roomL (e.l.drop (j + 1)) (i + 1) (256 - (v : Int)) by rw [hF, hv])
          have HV2 := Lib.hid hv
          have hv2 : v ≤ 256 := by omega
          clear hF hv
          go_wp2_with (go_at_call 30; (with_reducible refine (C2.out).mono ?_); rintro e1 w3 ⟨rfl, g, k⟩; have H3 := Lib.hid (hA.out.grow g (k v HV2.out hv2)); clear g k)
          go_roundw
          case rel => exact ⟨j + 1, v, by omega, by go_num, hv2, HE.out, H3⟩
          case measure => simp [intOf]; omega
      · obtain rfl : j = n := by omega
        have HE := Lib.hid (hF.trans (HEnd.out _))
        clear hF
        go_wp2
        go_ret
        refine ⟨ret_b (decide_eq_true (by have := HE.out; omega)).symm, H.out.grw, fun u hu h2 => ?_⟩
        obtain rfl : u = t := by have := HE.out; omega
        exact H.out.box
end Go.Proofs.YtimbiobonigdmaaGreatDoor
/- The program: May, Tokens. -/
set_option linter.unusedVariables false
set_option linter.unusedSimpArgs false
namespace Go.Proofs.YtimbiobonigdmaaGreatDoor
open Go Go.RowKit L8 L10

set_option maxRecDepth 100000 in
theorem PMayX_any (e : Ex) (A : Option Addr) (n c : Nat) (w : World) (R : TrR w A c e.l) (hn : e.l.length = n) (ok : OKe e) (ht : T10 w) : Calls Tryz.prog 20 #[exV e A n c] w fun en w' => en = .returned (.bool (mayE e)) ∧ Below w.heap.size w w' := by
  have b1 : Below w.heap.size w (w.alloc (.cells (exC e A n c) 27)) := bal (b0 w) _
  have b2 : Below w.heap.size w ((w.alloc (.cells (exC e A n c) 27)).alloc (.cells #[.int .i64 0] 71)) := bal b1 _
  have hbx : BoxS ((w.alloc (.cells (exC e A n c) 27)).alloc (.cells #[.int .i64 0] 71)) (w.heap.size + 1) 71 #[.int .i64 ((0 : Nat) : Int)] := by
    have := boxS_new (w.alloc (.cells (exC e A n c) 27)) 71 #[.int .i64 ((0 : Nat) : Int)]
    rwa [World.size_alloc] at this
  have C : Hid (Calls Tryz.prog 30 #[.pointer (some ⟨w.heap.size + 1, 0, none⟩), exV e A n c, .int .i64 1] ((w.alloc (.cells (exC e A n c) 27)).alloc (.cells #[.int .i64 0] 71)) fun en w' => en = .returned (.bool (mayE e)) ∧ Below w.heap.size w w') := Lib.hid (by
    have := cmay_any e A n c 0 0 (w.heap.size + 1) _ ((R.toN fun k hk => (by show k ≠ _; omega : (fun k => k ≠ w.heap.size + 1) k)).keep b2) hn ok (ht.below b2) hbx (by omega) (by omega)
    refine this.mono fun en w' ⟨h1, h2, _⟩ => ⟨?_, ?_⟩
    · rw [room_may]; exact h1
    · exact b2.trans (below_g h2 (by omega) b2.size))
  clear R hn ok ht b1 b2 hbx
  generalize mayE e = r at *
  dsimp only [exV, exC] at *
  generalize strOf e.s = S at *
  go_enter Tryz.func20, Tryz.ntmps20
  go_wp2_with (go_at_call 30; (with_reducible refine (C.out).mono ?_); rintro en w2 ⟨rfl, b⟩; have H2 := Lib.hid b; clear b)
  go_ret
  exact ⟨rfl, H2.out⟩
end Go.Proofs.YtimbiobonigdmaaGreatDoor
/- The program: the operators on words. -/
set_option linter.unusedVariables false
set_option linter.unusedSimpArgs false
namespace Go.Proofs.YtimbiobonigdmaaGreatDoor
open Go Go.RowKit L8 L10 L14

/-- What the result of an operator is as values. -/
def apR (x : Option Int) : Value := .tuple #[.int .i32 (x.getD 0), .bool x.isSome]
theorem w32_is (x : Int) : wrap32 x = w32 x := by unfold wrap32 w32; rfl
theorem over_fit (x : Int) : W1.overB x = !(fitO x).isSome := by
  unfold W1.overB fitO
  by_cases h : -2147483648 ≤ x ∧ x ≤ 2147483647
  · rw [if_pos h, decide_eq_true h.1, decide_eq_true (by omega)]; rfl
  · rw [if_neg h]
    by_cases h1 : -2147483648 ≤ x
    · rw [decide_eq_true h1, decide_eq_false (by omega)]; rfl
    · rw [decide_eq_false h1]; rfl
theorem wrap_fit {x : Int} (h : (fitO x).isSome = true) : fitO x = some (wrap32 x) := by
  unfold fitO at *
  by_cases hx : -2147483648 ≤ x ∧ x ≤ 2147483647
  · rw [if_pos hx]
    congr 1
    unfold wrap32
    omega
  · rw [if_neg hx] at h; cases h
/-- What an operator that may fail answers. -/
def UncR (x : Option Int) (e : Ending) : Prop := ∃ r p, e = .returned (.tuple #[.int .i32 r, .bool p]) ∧ (p = true → x = none) ∧ (p = false → x = some r)
theorem unc_fit (x : Int) : UncR (fitO x) (.returned (.tuple #[.int .i32 (wrap32 x), .bool (W1.overB x)])) := by
  refine ⟨_, _, rfl, fun h => ?_, fun h => ?_⟩
  · rw [over_fit] at h
    cases hf : fitO x with
    | none => rfl
    | some y => rw [hf] at h; cases h
  · rw [over_fit] at h
    exact wrap_fit (by simpa using h)
theorem isTruth_any (a : Int) (w : World) : Calls Tryz.prog 68 #[.int .i32 a] w fun e w' => e = .returned (.bool (isT a)) ∧ w = w' := by
  have q0 : (a == 0) = decide (a = 0) := by by_cases h : a = 0 <;> simp [h]
  have q1 : (a == 1) = decide (a = 1) := by by_cases h : a = 1 <;> simp [h]
  unfold isT
  generalize decide (a = 0) = b0 at *
  generalize decide (a = 1) = b1 at *
  go_enter Tryz.func68, Tryz.ntmps68
  cases b0 <;> (go_wp2; go_ret; exact ⟨ret_b (by simp), rfl⟩)
theorem truth_any (p : Bool) (w : World) : Calls Tryz.prog 45 #[.bool p] w fun e w' => e = .returned (.int .i32 (b01 p)) ∧ w = w' := by
  go_enter Tryz.func45, Tryz.ntmps45
  cases p <;> (go_wp2; go_ret; exact ⟨rfl, rfl⟩)
theorem cl_2 (a b : Int) (w : World) : Calls Tryz.prog 49 #[.int .i32 a, .int .i32 b] w fun e w' => e = .returned (.int .i32 (bits .and .i32 a b)) ∧ w = w' := by
  go_enter Tryz.func49, Tryz.ntmps49
  go_wp2
  go_ret
  exact ⟨rfl, rfl⟩
theorem cl_3 (a b : Int) (w : World) : Calls Tryz.prog 50 #[.int .i32 a, .int .i32 b] w fun e w' => e = .returned (.int .i32 (bits .or .i32 a b)) ∧ w = w' := by
  go_enter Tryz.func50, Tryz.ntmps50
  go_wp2
  go_ret
  exact ⟨rfl, rfl⟩
theorem cl_4 (a b : Int) (w : World) : Calls Tryz.prog 51 #[.int .i32 a, .int .i32 b] w fun e w' => e = .returned (.int .i32 (bits .xor .i32 a b)) ∧ w = w' := by
  go_enter Tryz.func51, Tryz.ntmps51
  go_wp2
  go_ret
  exact ⟨rfl, rfl⟩
theorem cl_5 (a b : Int) (w : World) : Calls Tryz.prog 54 #[.int .i32 a, .int .i32 b] w fun e w' => e = .returned (.bool (a == b)) ∧ w = w' := by
  go_enter Tryz.func54, Tryz.ntmps54
  go_wp2
  go_ret
  exact ⟨rfl, rfl⟩
theorem cl_6 (a b : Int) (w : World) : Calls Tryz.prog 55 #[.int .i32 a, .int .i32 b] w fun e w' => e = .returned (.bool (a != b)) ∧ w = w' := by
  go_enter Tryz.func55, Tryz.ntmps55
  go_wp2
  go_ret
  exact ⟨rfl, rfl⟩
theorem cl_7 (a b : Int) (w : World) : Calls Tryz.prog 56 #[.int .i32 a, .int .i32 b] w fun e w' => e = .returned (.bool (decide (a < b))) ∧ w = w' := by
  go_enter Tryz.func56, Tryz.ntmps56
  go_wp2
  go_ret
  exact ⟨rfl, rfl⟩
theorem cl_8 (a b : Int) (w : World) : Calls Tryz.prog 57 #[.int .i32 a, .int .i32 b] w fun e w' => e = .returned (.bool (decide (b < a))) ∧ w = w' := by
  go_enter Tryz.func57, Tryz.ntmps57
  go_wp2
  go_ret
  exact ⟨rfl, rfl⟩
theorem cl_9 (a b : Int) (w : World) : Calls Tryz.prog 58 #[.int .i32 a, .int .i32 b] w fun e w' => e = .returned (.bool (decide (a ≤ b))) ∧ w = w' := by
  go_enter Tryz.func58, Tryz.ntmps58
  go_wp2
  go_ret
  exact ⟨rfl, rfl⟩
theorem cl_10 (a b : Int) (w : World) : Calls Tryz.prog 59 #[.int .i32 a, .int .i32 b] w fun e w' => e = .returned (.bool (decide (b ≤ a))) ∧ w = w' := by
  go_enter Tryz.func59, Tryz.ntmps59
  go_wp2
  go_ret
  exact ⟨rfl, rfl⟩
theorem cl_11 (a b : Int) (ha : W1.isW a) (w : World) : Calls Tryz.prog 61 #[.int .i32 a, .int .i32 b] w fun e w' => e = .returned (.int .i32 (wrap32 (0 - a))) ∧ w = w' := by
  have C := Lib.hid (W1.Diff_any 0 a ⟨by decide, by decide⟩ ha)
  go_enter Tryz.func61, Tryz.ntmps61
  go_wp2_with (go_at_call 47; (with_reducible refine (C.out _).mono ?_); rintro e w' ⟨rfl, rfl⟩)
  go_ret
  exact ⟨ret_i (by rw [Int.zero_sub]), rfl⟩
theorem cl_12 (a b : Int) (ha : W1.isW a) (w : World) : Calls Tryz.prog 62 #[.int .i32 a, .int .i32 b] w fun e w' => e = .returned (.int .i32 (bits .xor .i32 (-1) a)) ∧ w = w' := by
  go_enter Tryz.func62, Tryz.ntmps62
  go_wp2
  go_ret
  exact ⟨rfl, rfl⟩
set_option maxRecDepth 100000 in
theorem cert_6 (w : World) : Calls Tryz.prog 28 #[.int .u8 6] w fun e w' => e = .returned (.func (.func 46) #[] #[]) ∧ w = w' := by
  go_enter Tryz.func28, Tryz.ntmps28
  go_wp2
  go_ret
  exact ⟨rfl, rfl⟩
set_option maxRecDepth 100000 in
theorem cert_7 (w : World) : Calls Tryz.prog 28 #[.int .u8 7] w fun e w' => e = .returned (.func (.func 47) #[] #[]) ∧ w = w' := by
  go_enter Tryz.func28, Tryz.ntmps28
  go_wp2
  go_ret
  exact ⟨rfl, rfl⟩
set_option maxRecDepth 100000 in
theorem cert_8 (w : World) : Calls Tryz.prog 28 #[.int .u8 8] w fun e w' => e = .returned (.func (.func 48) #[] #[]) ∧ w = w' := by
  go_enter Tryz.func28, Tryz.ntmps28
  go_wp2
  go_ret
  exact ⟨rfl, rfl⟩
set_option maxRecDepth 100000 in
theorem cert_9 (w : World) : Calls Tryz.prog 28 #[.int .u8 9] w fun e w' => e = .returned (.func (.func 49) #[] #[]) ∧ w = w' := by
  go_enter Tryz.func28, Tryz.ntmps28
  go_wp2
  go_ret
  exact ⟨rfl, rfl⟩
set_option maxRecDepth 100000 in
theorem cert_10 (w : World) : Calls Tryz.prog 28 #[.int .u8 10] w fun e w' => e = .returned (.func (.func 50) #[] #[]) ∧ w = w' := by
  go_enter Tryz.func28, Tryz.ntmps28
  go_wp2
  go_ret
  exact ⟨rfl, rfl⟩
set_option maxRecDepth 100000 in
theorem cert_11 (w : World) : Calls Tryz.prog 28 #[.int .u8 11] w fun e w' => e = .returned (.func (.func 51) #[] #[]) ∧ w = w' := by
  go_enter Tryz.func28, Tryz.ntmps28
  go_wp2
  go_ret
  exact ⟨rfl, rfl⟩
set_option maxRecDepth 100000 in
theorem cert_12 (w : World) : Calls Tryz.prog 28 #[.int .u8 12] w fun e w' => e = .returned (.func (.func 52) #[] #[]) ∧ w = w' := by
  go_enter Tryz.func28, Tryz.ntmps28
  go_wp2
  go_ret
  exact ⟨rfl, rfl⟩
set_option maxRecDepth 100000 in
theorem cert_13 (w : World) : Calls Tryz.prog 28 #[.int .u8 13] w fun e w' => e = .returned (.func (.func 53) #[] #[]) ∧ w = w' := by
  go_enter Tryz.func28, Tryz.ntmps28
  go_wp2
  go_ret
  exact ⟨rfl, rfl⟩
set_option maxRecDepth 100000 in
theorem cert_24 (w : World) : Calls Tryz.prog 28 #[.int .u8 24] w fun e w' => e = .returned (.func (.func 61) #[] #[]) ∧ w = w' := by
  go_enter Tryz.func28, Tryz.ntmps28
  go_wp2
  go_ret
  exact ⟨rfl, rfl⟩
set_option maxRecDepth 100000 in
theorem cert_25 (w : World) : Calls Tryz.prog 28 #[.int .u8 25] w fun e w' => e = .returned (.func (.func 62) #[] #[]) ∧ w = w' := by
  go_enter Tryz.func28, Tryz.ntmps28
  go_wp2
  go_ret
  exact ⟨rfl, rfl⟩
theorem whether_any (g : Nat) (w : World) : Calls Tryz.prog 43 #[.func (.func g) #[] #[]] w fun e w' => e = .returned (.func (.func 44) #[] #[.pointer (some ⟨w.heap.size, 0, none⟩)]) ∧ w' = w.alloc (.cells #[.func (.func g) #[] #[]] 92) := by
  go_enter Tryz.func43, Tryz.ntmps43
  go_wp2
  go_ret
  exact ⟨rfl, rfl⟩
set_option maxRecDepth 100000 in
theorem cert_14 (w : World) : Calls Tryz.prog 28 #[.int .u8 14] w fun e w' => e = .returned (.func (.func 44) #[] #[.pointer (some ⟨w.heap.size, 0, none⟩)]) ∧ w' = w.alloc (.cells #[.func (.func 54) #[] #[]] 92) := by
  go_enter Tryz.func28, Tryz.ntmps28
  go_wp2_with (go_at_call 43; (with_reducible refine (whether_any _ _).mono ?_); rintro e w' ⟨rfl, rfl⟩)
  go_ret
  exact ⟨rfl, rfl⟩
set_option maxRecDepth 100000 in
theorem cert_15 (w : World) : Calls Tryz.prog 28 #[.int .u8 15] w fun e w' => e = .returned (.func (.func 44) #[] #[.pointer (some ⟨w.heap.size, 0, none⟩)]) ∧ w' = w.alloc (.cells #[.func (.func 55) #[] #[]] 92) := by
  go_enter Tryz.func28, Tryz.ntmps28
  go_wp2_with (go_at_call 43; (with_reducible refine (whether_any _ _).mono ?_); rintro e w' ⟨rfl, rfl⟩)
  go_ret
  exact ⟨rfl, rfl⟩
set_option maxRecDepth 100000 in
theorem cert_16 (w : World) : Calls Tryz.prog 28 #[.int .u8 16] w fun e w' => e = .returned (.func (.func 44) #[] #[.pointer (some ⟨w.heap.size, 0, none⟩)]) ∧ w' = w.alloc (.cells #[.func (.func 56) #[] #[]] 92) := by
  go_enter Tryz.func28, Tryz.ntmps28
  go_wp2_with (go_at_call 43; (with_reducible refine (whether_any _ _).mono ?_); rintro e w' ⟨rfl, rfl⟩)
  go_ret
  exact ⟨rfl, rfl⟩
set_option maxRecDepth 100000 in
theorem cert_17 (w : World) : Calls Tryz.prog 28 #[.int .u8 17] w fun e w' => e = .returned (.func (.func 44) #[] #[.pointer (some ⟨w.heap.size, 0, none⟩)]) ∧ w' = w.alloc (.cells #[.func (.func 57) #[] #[]] 92) := by
  go_enter Tryz.func28, Tryz.ntmps28
  go_wp2_with (go_at_call 43; (with_reducible refine (whether_any _ _).mono ?_); rintro e w' ⟨rfl, rfl⟩)
  go_ret
  exact ⟨rfl, rfl⟩
set_option maxRecDepth 100000 in
theorem cert_18 (w : World) : Calls Tryz.prog 28 #[.int .u8 18] w fun e w' => e = .returned (.func (.func 44) #[] #[.pointer (some ⟨w.heap.size, 0, none⟩)]) ∧ w' = w.alloc (.cells #[.func (.func 58) #[] #[]] 92) := by
  go_enter Tryz.func28, Tryz.ntmps28
  go_wp2_with (go_at_call 43; (with_reducible refine (whether_any _ _).mono ?_); rintro e w' ⟨rfl, rfl⟩)
  go_ret
  exact ⟨rfl, rfl⟩
set_option maxRecDepth 100000 in
theorem cert_19 (w : World) : Calls Tryz.prog 28 #[.int .u8 19] w fun e w' => e = .returned (.func (.func 44) #[] #[.pointer (some ⟨w.heap.size, 0, none⟩)]) ∧ w' = w.alloc (.cells #[.func (.func 59) #[] #[]] 92) := by
  go_enter Tryz.func28, Tryz.ntmps28
  go_wp2_with (go_at_call 43; (with_reducible refine (whether_any _ _).mono ?_); rintro e w' ⟨rfl, rfl⟩)
  go_ret
  exact ⟨rfl, rfl⟩
set_option maxRecDepth 100000 in
theorem cert_22 (w : World) : Calls Tryz.prog 28 #[.int .u8 22] w fun e w' => e = .returned (.func (.func 44) #[] #[.pointer (some ⟨w.heap.size, 0, none⟩)]) ∧ w' = w.alloc (.cells #[.func (.func 60) #[] #[]] 92) := by
  go_enter Tryz.func28, Tryz.ntmps28
  go_wp2_with (go_at_call 43; (with_reducible refine (whether_any _ _).mono ?_); rintro e w' ⟨rfl, rfl⟩)
  go_ret
  exact ⟨rfl, rfl⟩
theorem wh_14 (a b : Int) (q : Nat) (w : World) (hq : w.cell? ⟨q, 0, none⟩ = some (.func (.func 54) #[] #[])) : Calls Tryz.prog 44 #[.int .i32 a, .int .i32 b, .pointer (some ⟨q, 0, none⟩)] w fun e w' => e = .returned (.int .i32 (b01 (a == b))) ∧ w = w' := by
  have C := Lib.hid (cl_5 a b w)
  generalize (a == b) = p at *
  go_enter Tryz.func44, Tryz.ntmps44
  go_wp2_with (first | (go_at_call 54; (with_reducible refine (C.out).mono ?_); rintro e w' ⟨rfl, rfl⟩) | (go_at_call 45; (with_reducible refine (truth_any _ _).mono ?_); rintro e w' ⟨rfl, rfl⟩))
  go_ret
  exact ⟨rfl, rfl⟩
theorem wh_15 (a b : Int) (q : Nat) (w : World) (hq : w.cell? ⟨q, 0, none⟩ = some (.func (.func 55) #[] #[])) : Calls Tryz.prog 44 #[.int .i32 a, .int .i32 b, .pointer (some ⟨q, 0, none⟩)] w fun e w' => e = .returned (.int .i32 (b01 (a != b))) ∧ w = w' := by
  have C := Lib.hid (cl_6 a b w)
  generalize (a != b) = p at *
  go_enter Tryz.func44, Tryz.ntmps44
  go_wp2_with (first | (go_at_call 55; (with_reducible refine (C.out).mono ?_); rintro e w' ⟨rfl, rfl⟩) | (go_at_call 45; (with_reducible refine (truth_any _ _).mono ?_); rintro e w' ⟨rfl, rfl⟩))
  go_ret
  exact ⟨rfl, rfl⟩
theorem wh_16 (a b : Int) (q : Nat) (w : World) (hq : w.cell? ⟨q, 0, none⟩ = some (.func (.func 56) #[] #[])) : Calls Tryz.prog 44 #[.int .i32 a, .int .i32 b, .pointer (some ⟨q, 0, none⟩)] w fun e w' => e = .returned (.int .i32 (b01 (decide (a < b)))) ∧ w = w' := by
  have C := Lib.hid (cl_7 a b w)
  generalize (decide (a < b)) = p at *
  go_enter Tryz.func44, Tryz.ntmps44
  go_wp2_with (first | (go_at_call 56; (with_reducible refine (C.out).mono ?_); rintro e w' ⟨rfl, rfl⟩) | (go_at_call 45; (with_reducible refine (truth_any _ _).mono ?_); rintro e w' ⟨rfl, rfl⟩))
  go_ret
  exact ⟨rfl, rfl⟩
theorem wh_17 (a b : Int) (q : Nat) (w : World) (hq : w.cell? ⟨q, 0, none⟩ = some (.func (.func 57) #[] #[])) : Calls Tryz.prog 44 #[.int .i32 a, .int .i32 b, .pointer (some ⟨q, 0, none⟩)] w fun e w' => e = .returned (.int .i32 (b01 (decide (b < a)))) ∧ w = w' := by
  have C := Lib.hid (cl_8 a b w)
  generalize (decide (b < a)) = p at *
  go_enter Tryz.func44, Tryz.ntmps44
  go_wp2_with (first | (go_at_call 57; (with_reducible refine (C.out).mono ?_); rintro e w' ⟨rfl, rfl⟩) | (go_at_call 45; (with_reducible refine (truth_any _ _).mono ?_); rintro e w' ⟨rfl, rfl⟩))
  go_ret
  exact ⟨rfl, rfl⟩
theorem wh_18 (a b : Int) (q : Nat) (w : World) (hq : w.cell? ⟨q, 0, none⟩ = some (.func (.func 58) #[] #[])) : Calls Tryz.prog 44 #[.int .i32 a, .int .i32 b, .pointer (some ⟨q, 0, none⟩)] w fun e w' => e = .returned (.int .i32 (b01 (decide (a ≤ b)))) ∧ w = w' := by
  have C := Lib.hid (cl_9 a b w)
  generalize (decide (a ≤ b)) = p at *
  go_enter Tryz.func44, Tryz.ntmps44
  go_wp2_with (first | (go_at_call 58; (with_reducible refine (C.out).mono ?_); rintro e w' ⟨rfl, rfl⟩) | (go_at_call 45; (with_reducible refine (truth_any _ _).mono ?_); rintro e w' ⟨rfl, rfl⟩))
  go_ret
  exact ⟨rfl, rfl⟩
theorem wh_19 (a b : Int) (q : Nat) (w : World) (hq : w.cell? ⟨q, 0, none⟩ = some (.func (.func 59) #[] #[])) : Calls Tryz.prog 44 #[.int .i32 a, .int .i32 b, .pointer (some ⟨q, 0, none⟩)] w fun e w' => e = .returned (.int .i32 (b01 (decide (b ≤ a)))) ∧ w = w' := by
  have C := Lib.hid (cl_10 a b w)
  generalize (decide (b ≤ a)) = p at *
  go_enter Tryz.func44, Tryz.ntmps44
  go_wp2_with (first | (go_at_call 59; (with_reducible refine (C.out).mono ?_); rintro e w' ⟨rfl, rfl⟩) | (go_at_call 45; (with_reducible refine (truth_any _ _).mono ?_); rintro e w' ⟨rfl, rfl⟩))
  go_ret
  exact ⟨rfl, rfl⟩
theorem wh_22 (a b : Int) (ha : W1.isW a) (hb : W1.isW b) (q : Nat) (w : World) (hq : w.cell? ⟨q, 0, none⟩ = some (.func (.func 60) #[] #[])) : Calls Tryz.prog 44 #[.int .i32 a, .int .i32 b, .pointer (some ⟨q, 0, none⟩)] w fun e w' => e = .returned (.int .i32 (b01 (W1.aftB a b))) ∧ w = w' := by
  have C := Lib.hid (W1.After_any a b ha hb w)
  generalize W1.aftB a b = p at *
  go_enter Tryz.func44, Tryz.ntmps44
  go_wp2_with (first | (go_at_call 60; (with_reducible refine (C.out).mono ?_); rintro e w' ⟨rfl, rfl⟩) | (go_at_call 45; (with_reducible refine (truth_any _ _).mono ?_); rintro e w' ⟨rfl, rfl⟩))
  go_ret
  exact ⟨rfl, rfl⟩
end Go.Proofs.YtimbiobonigdmaaGreatDoor
