/- What is decoded from bytes that are known. -/
import Derived.Test.YtjdjkdgdbdenpaaGreatDoorM13
import Derived.Test.YtjdjkdgdbdenpaaGreatDoorM01
set_option linter.unusedVariables false
set_option linter.unusedSimpArgs false
namespace Go.Proofs.YtjdjkdgdbdenpaaGreatDoor.C4
open Go Go.RowKit

end Go.Proofs.YtjdjkdgdbdenpaaGreatDoor.C4
/- Slices of instructions: what can be read, what is a row of a call's own, appends. -/
namespace Go.Proofs.YtjdjkdgdbdenpaaGreatDoor.C4
open Go Go.RowKit

abbrev II := Nat × Int
def i0 : II := (0, 0)
def is (l : List II) : List Value := l.flatMap fun p => [.int .u8 (p.1 : Int), .int .i32 p.2]
theorem is_nil : is [] = [] := rfl
theorem is_app (l k : List II) : is (l ++ k) = is l ++ is k := by simp [is]
theorem is_len (l : List II) : (is l).length = l.length * 2 := by
  induction l with
  | nil => rfl
  | cons p l ih => rw [show is (p :: l) = .int .u8 (p.1 : Int) :: .int .i32 p.2 :: is l from rfl]; simp only [List.length_cons, ih]; omega
theorem is_one (l : List II) : ∀ v ∈ is l, v.oneCell' = true := by
  intro v hv
  simp only [is, List.mem_flatMap, List.mem_cons, List.not_mem_nil, or_false] at hv
  obtain ⟨p, _, rfl | rfl⟩ := hv <;> rfl
theorem is_at {l : List II} {j : Nat} (h : j < l.length) : (is l)[j * 2]? = some (.int .u8 ((l.getD j i0).1 : Int)) ∧ (is l)[j * 2 + 1]? = some (.int .i32 (l.getD j i0).2) := by
  induction l generalizing j with
  | nil => simp at h
  | cons p l ih =>
    rw [show is (p :: l) = .int .u8 (p.1 : Int) :: .int .i32 p.2 :: is l from rfl]
    cases j with
    | zero => exact ⟨rfl, rfl⟩
    | succ j =>
      have := ih (j := j) (by simpa using h)
      rw [show (j + 1) * 2 = j * 2 + 1 + 1 by omega, show j * 2 + 1 + 1 + 1 = (j * 2 + 1) + 1 + 1 by omega]
      simp only [List.getElem?_cons_succ, List.getD_cons_succ]
      exact this
def OKI (l : List II) : Prop := ∀ p ∈ l, p.1 < 256 ∧ isW p.2
theorem OKI.get {l : List II} (h : OKI l) (j : Nat) : (l.getD j i0).1 < 256 ∧ isW (l.getD j i0).2 := by
  by_cases hj : j < l.length
  · have e : l.getD j i0 = l[j] := by simp [hj]
    rw [e]
    exact h _ (List.getElem_mem hj)
  · have e : l.getD j i0 = i0 := by simp [List.getElem?_eq_none (show l.length ≤ j by omega)]
    rw [e]; exact ⟨by decide, by unfold isW i0; omega⟩
theorem OKI.take {l : List II} (h : OKI l) (m : Nat) : OKI (l.take m) := fun p hp => h p (List.mem_of_mem_take hp)
theorem OKI.app {l k : List II} (h : OKI l) (h' : OKI k) : OKI (l ++ k) := fun p hp => (List.mem_append.1 hp).elim (h p) (h' p)
/-- A slice of instructions that can be read. -/
structure RI (w : World) (A : Option Addr) (c : Nat) (l : List II) : Prop where
  le : l.length ≤ c
  mx : c ≤ maxLen
  ok : OKI l
  rd : ∀ j, j < l.length → ∃ ad, A = some ad ∧ w.cell? (ad.add (j * 2)) = some (.int .u8 ((l.getD j i0).1 : Int)) ∧ w.cell? ⟨(ad.add (j * 2)).block, (ad.add (j * 2)).off + 1, none⟩ = some (.int .i32 (l.getD j i0).2)
theorem RI.kept0 {w w' : World} {A : Option Addr} {c : Nat} {l : List II} (h : RI w A c l) (hg : w.grownBy w' none) : RI w' A c l :=
  ⟨h.le, h.mx, h.ok, fun j hj => by
    obtain ⟨ad, e, h1, h2⟩ := h.rd j hj
    exact ⟨ad, e, hg.cell h1 (by simp), hg.cell h2 (by simp)⟩⟩
theorem RI.take {w : World} {A : Option Addr} {c : Nat} {l : List II} (h : RI w A c l) (m : Nat) : RI w A c (l.take m) :=
  ⟨by have := h.le; simp; omega, h.mx, h.ok.take m, fun j hj => by
    simp only [List.length_take] at hj
    obtain ⟨ad, e, h1, h2⟩ := h.rd j (by omega)
    have e2 : (l.take m).getD j i0 = l.getD j i0 := by
      simp only [List.getD_eq_getElem?_getD]
      rw [List.getElem?_take, if_pos (by omega)]
    rw [e2]
    exact ⟨ad, e, h1, h2⟩⟩
theorem RI.nil (w : World) : RI w none 0 [] := ⟨Nat.le_refl _, by simp [maxLen], (fun _ h => (by cases h)), (fun j h => absurd h (by simp))⟩
/-- A row of instructions of the call's own. -/
def OwnI (w : World) (B : Nat) (A : Option Addr) (n c : Nat) (l : List II) : Prop := w.ownsRow B 70 2 (.slice A n c) n (is l)
theorem OwnI.len {w : World} {B n c : Nat} {A : Option Addr} {l : List II} (h : OwnI w B A n c l) : l.length = n := by
  have := h.1
  rw [is_len] at this
  omega
theorem OwnI.ri {w : World} {B n c : Nat} {A : Option Addr} {l : List II} (h : OwnI w B A n c l) (ho : OKI l) : RI w A c l := by
  have hl := h.len
  rcases h.2 with ⟨hv, h0⟩ | ⟨g, cap, cur, hv, hB, hh, hnc, hm, hcs, hx⟩
  · injection hv with h1 h2 h3
    subst h1
    obtain rfl : l = [] := List.eq_nil_of_length_eq_zero (by omega)
    exact ⟨by simp, by rw [h3]; simp [maxLen], ho, (fun j h => absurd h (by simp))⟩
  · injection hv with h1 h2 h3
    subst h1 h3
    refine ⟨by omega, hm, ho, fun j hj => ⟨_, rfl, ?_, ?_⟩⟩
    · exact World.ownsRow.cells h rfl (j * 2) _ (is_at hj).1
    · have := World.ownsRow.cells h rfl (j * 2 + 1) _ (is_at hj).2
      rw [add_plain] at this ⊢
      simpa [Nat.add_assoc] using this
theorem ins_info : (Tryz.prog.info? 70).map (fun i => (i.zero, i.size, i.bytes)) = some (some (.agg #[.int .u8 0, .int .i32 0]), 2, 8) := by kernel_rfl
theorem g_app2 {w0 w w' : World} {v : Value} {n : Nat} {xs : List Value} {e : TypeId} {s : Nat} (h : w0.grownBy w none) (hown : w.ownsRow w0.heap.size e s v n xs) (k : w.grownBy w' v.ownBlock) : w0.grownBy w' none :=
  ⟨k.os.trans h.os, k.tape.trans h.tape, k.output.trans h.output, Nat.le_trans h.size k.size, fun i hi _ => (k.block i (Nat.lt_of_lt_of_le hi h.size) (fun e => by have := (hown.lt i e.symm).1; omega)).trans (h.block i hi (by simp))⟩
set_option maxRecDepth 100000 in
/-- One instruction appended to a row of the call's own. -/
theorem app_ins {w : World} {ops : Array Oper} {rest : List Oper} {o : Oper} {a : Act} {Q : Exit → Act → World → Prop} (hgd : o.guard = none) (s x : Operand)
    (ho : o.op = .call { callee := .builtin .append, args := #[s, x], argTypes := #[54, 54] }) (base n c k : Nat) (A : Option Addr) (B : Nat) (l : List II) (f : Nat) (v : Int) (hs : a.eval s = .slice A n c) (hx : a.eval x = .slice (some ⟨B, 0, none⟩) 1 k)
    (hown : OwnI w base A n c l) (hc : w.cell? ⟨B, 0, none⟩ = some (.int .u8 (f : Int)) ∧ w.cell? ⟨B, 1, none⟩ = some (.int .i32 v)) (hl : n ≤ 1000000) (hbase : base ≤ w.heap.size)
    (h : ∀ g c2 w', OwnI w' base (some ⟨g, 0, none⟩) (n + 1) c2 (l ++ [(f, v)]) → w.grownBy w' (Value.slice A n c).ownBlock → ((Value.slice A n c).ownBlock = some g ∨ w.heap.size ≤ g) → wpList Tryz.prog ops Q rest (a.put o.dst (.slice (some ⟨g, 0, none⟩) (n + 1) c2)) w') : wpList Tryz.prog ops Q (o :: rest) a w := by
  obtain ⟨i0, hi0, hz0, hz1, hz2⟩ := info_parts ins_info
  refine wpList_append_lies (w := w) hgd s x 54 ho base 70 i0 (.agg #[.int .u8 0, .int .i32 0]) 2 8 Tryz.underlying54 hi0 hz0 hz1 hz2 rfl (by omega) (.slice A n c) n (is l) hs hown ⟨B, 0, none⟩ 1 k [.int .u8 (f : Int), .int .i32 v] hx rfl ?_ ?_ (by omega)
    (by unfold maxLen; omega) (by omega) hbase w.heap.size rfl ?_
  · intro j u hj
    match j with
    | 0 => simp at hj; subst hj; exact hc.1
    | 1 => simp at hj; subst hj; exact hc.2
    | j + 2 => simp at hj
  · intro u hu
    simp at hu
    rcases hu with rfl | rfl <;> rfl
  · intro g cap w' h1 h2 h3 _
    exact h g cap w' (by unfold OwnI; rw [is_app]; exact h1) h2 (h3.imp id (fun e => by omega))
set_option maxRecDepth 100000 in
/-- Instructions appended to a row of the call's own. -/
theorem app_inss {w : World} {ops : Array Oper} {rest : List Oper} {o : Oper} {a : Act} {Q : Exit → Act → World → Prop} (hgd : o.guard = none) (s x : Operand)
    (ho : o.op = .call { callee := .builtin .append, args := #[s, x], argTypes := #[54, 54] }) (base n c m d l : Nat) (A A' : Option Addr) (xs ys : List II) (hs : a.eval s = .slice A n c) (hx : a.eval x = .slice A' m d)
    (hown : OwnI w base A n c xs) (hy : ys.length = m) (R : RI w A' d ys) (hl : n + m = l) (h63 : l ≤ 1000000) (hbase : base ≤ w.heap.size)
    (h : ∀ A2 c2 w', OwnI w' base A2 l c2 (xs ++ ys) → w.grownBy w' (Value.slice A n c).ownBlock → ((Value.slice A n c).ownBlock = (Value.slice A2 l c2).ownBlock ∨ ∀ g, (Value.slice A2 l c2).ownBlock = some g → w.heap.size ≤ g) → wpList Tryz.prog ops Q rest (a.put o.dst (.slice A2 l c2)) w') : wpList Tryz.prog ops Q (o :: rest) a w := by
  obtain ⟨i0, hi0, hz0, hz1, hz2⟩ := info_parts ins_info
  rcases Nat.eq_zero_or_pos m with hm0 | hm0
  · subst hm0
    obtain rfl : ys = [] := List.eq_nil_of_length_eq_zero hy
    have hrun : (Builtin.append_ #[54, 54] o.type #[.slice A n c, .slice A' 0 d]).run Tryz.prog w = .ok (.slice A n c) w := by
      rcases hown.2 with ⟨hv, h0⟩ | ⟨g, cap, cur, hv, _, _, hnc, _⟩
      · injection hv with h1 h2 h3
        subst h1; subst h3
        simp [Builtin.append_, run_underlying Tryz.underlying54, sizeOf, typeInfo, hi0, Builtin.lenOf, Builtin.firstCells, h0]
        rcases A' with _ | ad
        · simp
        · have hld := run_loadCells_list (P := Tryz.prog) w ad [] (by intro j u hj; simp at hj)
          simp only [List.length_nil] at hld
          simp [hld]
      · injection hv with h1 h2 h3
        subst h1; subst h3
        simp [Builtin.append_, run_underlying Tryz.underlying54, sizeOf, typeInfo, hi0, Builtin.lenOf, Builtin.firstCells, hnc, storeCells]
        rcases A' with _ | ad
        · simp [storeCells]
        · have hld := run_loadCells_list (P := Tryz.prog) w ad [] (by intro j u hj; simp at hj)
          simp only [List.length_nil] at hld
          simp [hld, storeCells]
    refine wpList_plain hgd fun K hK => ?_
    unfold Oper.wp execOp
    simp only [ho, resolve, invoke, builtin, Sem.run_bind, Sem.run_pure, Result.andThen_ok, List.map_toArray, List.map_cons, List.map_nil, hs, hx, hrun]
    subst hl
    exact hK _ _ (h A c w (by rw [List.append_nil]; exact hown) (World.grownBy.refl w _) (.inl rfl))
  · obtain ⟨ad, rfl, _⟩ := R.rd 0 (by omega)
    refine wpList_append_lies (w := w) hgd s x 54 ho base 70 i0 (.agg #[.int .u8 0, .int .i32 0]) 2 8 Tryz.underlying54 hi0 hz0 hz1 hz2 rfl (by omega) (.slice A n c) n (is xs) hs hown ad m d (is ys) hx (by rw [is_len, hy]) ?_ (is_one ys) hm0
      (by unfold maxLen; omega) (by omega) hbase w.heap.size rfl ?_
    · intro j u hj
      have hjl : j < ys.length * 2 := by
        have := (List.getElem?_eq_some_iff.1 hj).1
        rwa [is_len] at this
      obtain ⟨ad', e, h1, h2⟩ := R.rd (j / 2) (by omega)
      cases e
      obtain ⟨k1, k2⟩ := is_at (l := ys) (j := j / 2) (by omega)
      by_cases hp : j % 2 = 0
      · rw [show j / 2 * 2 = j by omega] at h1 k1
        rw [k1] at hj; cases hj; exact h1
      · rw [show j / 2 * 2 + 1 = j by omega] at k2
        rw [k2] at hj; cases hj
        rw [← h2]
        obtain ⟨q, rfl⟩ : ∃ q, j = q * 2 + 1 := ⟨j / 2, by omega⟩
        rw [show (q * 2 + 1) / 2 * 2 = q * 2 by omega, ← add_add_, add_succ_]
    · intro g cap w' h1 h2 h3 _
      subst hl
      exact h _ cap w' (by unfold OwnI; rw [is_app]; exact h1) h2 (h3.imp (fun e => e) (fun e g' e' => by cases e'; simp only [Value.ownBlock] at *; omega))
end Go.Proofs.YtjdjkdgdbdenpaaGreatDoor.C4
/- Instructions are encoded one after the other: by the program. -/
namespace Go.Proofs.YtjdjkdgdbdenpaaGreatDoor.C4
open Go Go.RowKit

def jl (l : List II) : List Nat := l.flatMap fun p => enc p.1 p.2
def av (l : List II) : Bool := l.all fun p => valid p.1
def je (l : List II) : Int := if av l = true then (if 32768 < (jl l).length then 3 else 0) else 2
def jb (l : List II) : List Nat := if je l = 0 then jl l else []
theorem jl_app (l k : List II) : jl (l ++ k) = jl l ++ jl k := by simp [jl]
theorem take_snoc {l : List II} {k : Nat} (h : k < l.length) : l.take (k + 1) = l.take k ++ [l.getD k i0] := by
  rw [List.take_succ_eq_append_getElem h]
  simp [h]
theorem jl_snoc {l : List II} {k : Nat} (h : k < l.length) : jl (l.take (k + 1)) = jl (l.take k) ++ enc (l.getD k i0).1 (l.getD k i0).2 := by
  rw [take_snoc h, jl_app]; simp [jl]
theorem av_snoc {l : List II} {k : Nat} (h : k < l.length) (hv : av (l.take k) = true) (hp : valid (l.getD k i0).1 = true) : av (l.take (k + 1)) = true := by
  rw [take_snoc h]
  unfold av at hv ⊢
  rw [List.all_append, hv, List.all_cons, List.all_nil, hp]
  rfl
theorem av_get {l : List II} (h : av l = true) {k : Nat} (hk : k < l.length) : valid (l.getD k i0).1 = true := by
  have e : l.getD k i0 = l[k] := by simp [hk]
  rw [e]
  exact List.all_eq_true.1 h _ (List.getElem_mem hk)
theorem av_no {l : List II} {k : Nat} (h : k < l.length) (hp : ¬ valid (l.getD k i0).1 = true) : ¬ av l = true := fun hv => hp (av_get hv h)
theorem jl_len {l : List II} (h : OKI l) : (jl l).length ≤ 8 * l.length := by
  induction l with
  | nil => simp [jl]
  | cons p l ih =>
    have h1 := ih (fun q hq => h q (List.mem_cons_of_mem _ hq))
    have h2 := enc_len p.1 (h p List.mem_cons_self).2
    rw [show jl (p :: l) = enc p.1 p.2 ++ jl l from rfl]
    simp; omega
theorem jl_mono {l : List II} (k : Nat) : (jl (l.take k)).length ≤ (jl l).length := by
  conv => rhs; rw [← List.take_append_drop k l, jl_app]
  simp
theorem jl_by {l : List II} (h : av l = true) : BY (jl l) := by
  intro x hx
  simp only [jl, List.mem_flatMap] at hx
  obtain ⟨p, hp, hx⟩ := hx
  exact enc_by (valid_lt (List.all_eq_true.1 h p hp)) x hx
theorem je_bad {l : List II} (h : ¬ av l = true) : je l = 2 := if_neg h
theorem je_long {l : List II} (h : av l = true) (h2 : 32768 < (jl l).length) : je l = 3 := by unfold je; rw [if_pos h, if_pos h2]
theorem je_ok {l : List II} (h : av l = true) (h2 : ¬ 32768 < (jl l).length) : je l = 0 := by unfold je; rw [if_pos h, if_neg h2]
theorem jb_no {l : List II} (h : je l ≠ 0) : jb l = [] := if_neg h
theorem jb_ok {l : List II} (h : je l = 0) : jb l = jl l := if_pos h
theorem Len_no {f : Nat} {v : Int} (hf : ¬ valid f = true) (hv : isW v) (w : World) : Calls Tryz.prog 41 #[.agg #[.int .u8 (f : Int), .int .i32 v]] w fun e w' => e = .returned (.int .i64 0) ∧ w.grownBy w' none := by
  have C := Len_any f hv w
  rwa [show ln f v = 0 from if_neg hf] at C
set_option maxRecDepth 100000 in
set_option maxHeartbeats 4000000 in
theorem Join_any {A : Option Addr} {c n : Nat} {l : List II} {w : World} (R : RI w A c l) (hn : l.length = n) (hl : n ≤ 100000) : Calls Tryz.prog 50 #[.slice A n c] w (Gives w (je l) (jb l)) := by
  unfold Gives
  have HR := Lib.hid R
  have HN := Lib.hid hn
  have HJ := Lib.hid (jl_len R.ok)
  have hlI : (n : Int) ≤ 100000 := by omega
  clear R hn
  go_enter Tryz.func50, Tryz.ntmps50
  go_wp2
  go_loopw [4, 13] (fun s i wr => ∃ k S : Nat, k ≤ n ∧ i = .int .i64 k ∧ s = .int .i64 S ∧ S ≤ 800000 ∧ Hid (w.grownBy wr none ∧ S = (jl (l.take k)).length ∧ av (l.take k) = true)) (fun _ i _ => n - (intOf i).toNat)
  case atStart => exact ⟨0, 0, by omega, rfl, rfl, by omega, World.grownBy.refl _ _, rfl, rfl⟩
  case round =>
    obtain ⟨k, S, hk, rfl, rfl, hS, H⟩ := hrel
    by_cases hlt : (k : Int) < (n : Int)
    · obtain ⟨ad, rfl, c0, c1⟩ := (HR.out.kept0 H.out.1).rd k (by have := HN.out; omega)
      have hv := (HR.out.ok.get k).2
      have hkl : k < l.length := by have := HN.out; omega
      by_cases hf : valid (l.getD k i0).1 = true
      · have CL := Lib.hid (fun w => Len_is hf hv w)
        have h8 := enc_len (l.getD k i0).1 hv
        have hp := enc_len_pos (l.getD k i0).1 (l.getD k i0).2
        have HS := Lib.hid (show S + (enc (l.getD k i0).1 (l.getD k i0).2).length = (jl (l.take (k + 1))).length by rw [jl_snoc hkl, List.length_append, H.out.2.1])
        have HV := Lib.hid (av_snoc hkl H.out.2.2 hf)
        have HM := Lib.hid (show S + (enc (l.getD k i0).1 (l.getD k i0).2).length ≤ 800000 by have := jl_mono (l := l) (k + 1); have := HJ.out; have := HS.out; have := HN.out; omega)
        generalize (enc (l.getD k i0).1 (l.getD k i0).2).length = L at *
        generalize (l.getD k i0).1 = f at *
        generalize (l.getD k i0).2 = v at *
        have q : ((L : Int) == 0) = false := by simp; omega
        have q2 : ¬ (L : Int) = 0 := by omega
        have hk0 : (0 : Int) ≤ (k : Int) := by omega
        clear hv hf hp hkl
        go_wp2_with (go_at_call 41; (with_reducible refine (CL.out _).mono ?_); rintro e w2 ⟨rfl, g2⟩; have G2 := Lib.hid (g_trans (g_trans H.out.1 (World.grownBy_alloc wr _ none)) g2); clear g2)
        go_roundw
        case rel => exact ⟨k + 1, S + L, by omega, by go_num, by go_num, HM.out, G2.out, HS.out, HV.out⟩
        case measure => simp [intOf]; omega
      · have CL := Lib.hid (fun w => Len_no hf hv w)
        have E := Lib.hid (je_bad (av_no hkl hf))
        have E2 := Lib.hid (jb_no (l := l) (by rw [E.out]; decide))
        generalize (l.getD k i0).1 = f at *
        generalize (l.getD k i0).2 = v at *
        have hk0 : (0 : Int) ≤ (k : Int) := by omega
        clear hv hf hkl
        go_wp2_with (go_at_call 41; (with_reducible refine (CL.out _).mono ?_); rintro e w2 ⟨rfl, g2⟩; have G2 := Lib.hid (g_trans (g_trans H.out.1 (World.grownBy_alloc wr _ none)) g2); clear g2)
        go_ret2
        rw [E.out, E2.out]
        exact ⟨none, 0, rfl, own_nil _ _, G2.out⟩
    · obtain rfl : k = n := by omega
      have ht : l.take k = l := List.take_of_length_le (by have := HN.out; omega)
      rw [ht] at H
      by_cases h3 : (32768 : Int) < (S : Int)
      · have E := Lib.hid (je_long H.out.2.2 (by rw [← H.out.2.1]; omega))
        have E2 := Lib.hid (jb_no (l := l) (by rw [E.out]; decide))
        clear ht
        go_wp2
        go_ret2
        rw [E.out, E2.out]
        exact ⟨none, 0, rfl, own_nil _ _, H.out.1⟩
      · have E := Lib.hid (je_ok H.out.2.2 (by rw [← H.out.2.1]; omega))
        have E2 := Lib.hid (jb_ok E.out)
        clear ht
        have hmk := run_mk S (by omega)
        go_wp2
        have HV := Lib.hid H.out.2.2
        have HW := Lib.hid (And.intro (g_trans H.out.1 (World.grownBy_alloc wr (.cells (zc S) 5) none)) (own_mk wr S w.heap.size H.out.1.size (by omega)))
        have HSZ := Lib.hid H.out.2.1
        clear H hmk
        generalize wr.heap.size = g0 at *
        generalize wr.alloc (.cells (zc S) 5) = W at *
        go_loopw [8, 31] (fun b i wr2 => ∃ k2 S2 : Nat, k2 ≤ k ∧ i = .int .i64 k2 ∧ S2 ≤ 32768 ∧ ∃ A2 c2, b = .slice A2 S2 c2 ∧ Hid ((w.grownBy wr2 none ∧ wr2.ownsRow w.heap.size 5 1 (.slice A2 S2 c2) S2 (bs (jl (l.take k2)))) ∧ S2 = (jl (l.take k2)).length)) (fun _ i _ => k - (intOf i).toNat)
        case atStart => exact ⟨0, 0, by omega, rfl, by omega, _, _, rfl, HW.out, rfl⟩
        case round =>
          obtain ⟨k2, S2, hk2, rfl, hS2, A2, c2, rfl, H2⟩ := hrel
          by_cases hlt : (k2 : Int) < (k : Int)
          · obtain ⟨ad, rfl, c0, c1⟩ := (HR.out.kept0 H2.out.1.1).rd k2 (by have := HN.out; omega)
            have hv := (HR.out.ok.get k2).2
            have hkl : k2 < l.length := by have := HN.out; omega
            have hf := av_get HV.out hkl
            have CE := Lib.hid (fun w1 (g1 : wr.grownBy w1 none) => enc_any (l.getD k2 i0).1 (valid_lt hf) (l.getD k2 i0).2 hv w1 w.heap.size A2 S2 c2 _ (own_keep H2.out.1.2 g1) (by omega) (Nat.le_trans H2.out.1.1.size g1.size))
            unfold Made at CE
            have HM := Lib.hid (show S2 + (enc (l.getD k2 i0).1 (l.getD k2 i0).2).length = (jl (l.take (k2 + 1))).length ∧ S2 + (enc (l.getD k2 i0).1 (l.getD k2 i0).2).length ≤ 32768 by
              have e1 := jl_mono (l := l) (k2 + 1)
              have e2 : (jl (l.take (k2 + 1))).length = S2 + (enc (l.getD k2 i0).1 (l.getD k2 i0).2).length := by rw [jl_snoc hkl, List.length_append, ← H2.out.2]
              have e3 := HSZ.out
              omega)
            rw [← jl_snoc hkl] at CE
            generalize (enc (l.getD k2 i0).1 (l.getD k2 i0).2).length = L at *
            generalize (l.getD k2 i0).1 = f at *
            generalize (l.getD k2 i0).2 = v at *
            have hk0 : (0 : Int) ≤ (k2 : Int) := by omega
            clear hv hf hkl
            go_wp2_with (go_at_call 66; (with_reducible refine (CE.out _ (World.grownBy_alloc wr _ none)).mono ?_); rintro e w5 ⟨g5, c5, rfl, o5, g5', _⟩; have H5 := Lib.hid (own_app (o := none) (g_trans H2.out.1.1 (World.grownBy_alloc wr _ none)) (H2.out.1.2.alloc _) g5' o5); clear o5 g5')
            go_roundw
            case rel => exact ⟨k2 + 1, S2 + L, by omega, by go_num, HM.out.2, _, _, rfl, H5.out, HM.out.1⟩
            case measure => simp [intOf]; omega
          · obtain rfl : k2 = k := by omega
            have ht : l.take k2 = l := List.take_of_length_le (by have := HN.out; omega)
            have HL := Lib.hid ht
            clear ht
            go_wp2
            go_ret2
            rw [E.out, E2.out]
            have h1 := H2.out
            rw [HL.out] at h1
            exact ⟨A2, c2, by rw [h1.2]; rfl, own_of h1.1.2 h1.2, h1.1.1⟩
end Go.Proofs.YtjdjkdgdbdenpaaGreatDoor.C4
/- Lines of assembly text: what they are, their labels, lengths and operands. Plain Lean. -/
namespace Go.Proofs.YtjdjkdgdbdenpaaGreatDoor
open Go

abbrev Bs := List UInt8
/-- A line. -/
structure Ln where
  lab : Bs
  fn : Nat
  arg : Int
  tgt : Bs
  fr : Bs
instance : DecidableEq Ln := fun a b =>
  decidable_of_iff (a.lab = b.lab ∧ a.fn = b.fn ∧ a.arg = b.arg ∧ a.tgt = b.tgt ∧ a.fr = b.fr) (by cases a; cases b; simp)
def l0 : Ln := ⟨[], 0, 0, [], []⟩

/-! ### Labels and valid lines -/
def isLet (c : UInt8) : Bool := (decide (65 ≤ c.toNat) && decide (c.toNat ≤ 90)) || (decide (97 ≤ c.toNat) && decide (c.toNat ≤ 122))
def isDig (c : UInt8) : Bool := decide (48 ≤ c.toNat) && decide (c.toNat ≤ 57)
def isMid (c : UInt8) : Bool := isLet c || isDig c || decide (c.toNat = 46)
def isLab (l : Bs) : Bool := match l with
  | [] => false
  | c :: cs => decide (cs.length < 32) && isLet c && cs.all isMid
def orNone (l : Bs) : Bool := l.isEmpty || isLab l
def vld (x : Ln) : Bool := orNone x.lab && (if x.tgt.isEmpty then x.fr.isEmpty && ex x.fn x.arg else isLab x.tgt && orNone x.fr && decide (x.arg = 0) && ex x.fn x.arg && decide (x.fn ≠ 15))
def fnd (ls : List Ln) (n : Bs) : Option Nat := ls.findIdx? fun x => decide (x.lab = n)
def pos (ls : List Ln) (n : Bs) : Nat := (fnd ls n).getD 0
/-- The labels of line i are those of lines, and its own label is no other line's ahead of it. -/
def lineOk (ls : List Ln) (i : Nat) : Bool :=
  ((ls.getD i l0).lab.isEmpty || decide (fnd ls (ls.getD i l0).lab = some i)) && ((ls.getD i l0).tgt.isEmpty || (fnd ls (ls.getD i l0).tgt).isSome) && ((ls.getD i l0).fr.isEmpty || (fnd ls (ls.getD i l0).fr).isSome)
def chk (ls : List Ln) : Int := if ls.all vld = true then (if (List.range ls.length).all (lineOk ls) = true then 0 else 60) else 2

theorem isLab_len {l : Bs} (h : isLab l = true) : 1 ≤ l.length ∧ l.length ≤ 32 := by
  cases l with
  | nil => cases h
  | cons c cs =>
    unfold isLab at h
    simp only [Bool.and_eq_true, decide_eq_true_eq] at h
    simp only [List.length_cons]
    omega
theorem orNone_len {l : Bs} (h : orNone l = true) : l.length ≤ 32 := by
  unfold orNone at h
  rcases (Bool.or_eq_true _ _).mp h with h | h
  · cases l with
    | nil => simp
    | cons c l => cases h
  · exact (isLab_len h).2
theorem ex_valid {f : Nat} {a : Int} (h : ex (f : Int) a = true) : C4.valid f = true := by
  have hl := (ex_le h).1
  unfold C4.valid
  simp only [decide_eq_true_eq]
  refine ⟨by omega, ?_, ?_⟩
  · rintro rfl; unfold ex nm rowL at h; exact absurd h (by simp [fnT])
  · rintro rfl; unfold ex nm rowL at h; exact absurd h (by simp [fnT])
theorem ex_of_valid {f : Nat} (h : C4.valid f = true) (hf : f ≠ 15) (a : Int) : ex (f : Int) a = true := by
  unfold C4.valid at h
  simp only [decide_eq_true_eq] at h
  have e : ex (f : Int) a = ex (f : Int) 0 := (ex_nm (.inl (by omega))).1
  rw [e]
  have : ∀ k : Fin 15, k.val ≠ 2 → k.val ≠ 6 → ex (k.val : Int) 0 = true := by decide
  exact this ⟨f, by omega⟩ h.2.1 h.2.2
theorem vld_ex {x : Ln} (h : vld x = true) : ex x.fn x.arg = true := by
  unfold vld at h
  simp only [Bool.and_eq_true] at h
  obtain ⟨_, h⟩ := h
  split at h
  · simp only [Bool.and_eq_true] at h; exact h.2
  · simp only [Bool.and_eq_true] at h; exact h.1.2
theorem vld_valid {x : Ln} (h : vld x = true) : C4.valid x.fn = true := ex_valid (vld_ex h)

/-! ### Addresses -/
def adr (ns : List Nat) (i : Nat) : Nat := (ns.take i).sum
theorem adr_zero (ns : List Nat) : adr ns 0 = 0 := rfl
theorem adr_succ (ns : List Nat) (i : Nat) : adr ns (i + 1) = adr ns i + ns.getD i 0 := by
  unfold adr
  by_cases h : i < ns.length
  · rw [List.take_succ_eq_append_getElem h, List.sum_append]
    simp [h]
  · rw [List.take_of_length_le (by omega), List.take_of_length_le (by omega)]
    simp [List.getElem?_eq_none (show ns.length ≤ i by omega)]
theorem adr_mono (ns : List Nat) (i k : Nat) : adr ns i ≤ adr ns (i + k) := by
  induction k with
  | zero => exact Nat.le_refl _
  | succ k ih => rw [← Nat.add_assoc, adr_succ]; omega
theorem adr_le {ns : List Nat} {b : Nat} (h : ∀ i, ns.getD i 0 ≤ b) (i : Nat) : adr ns i ≤ b * i := by
  induction i with
  | zero => exact Nat.le_refl _
  | succ i ih => have := h i; rw [adr_succ, Nat.mul_succ]; omega
theorem adr_all (ns : List Nat) : adr ns ns.length = ns.sum := by unfold adr; rw [List.take_length]
/-- No length of the first list is greater than that of the second. -/
def Le (a b : List Nat) : Prop := a.length = b.length ∧ ∀ i, a.getD i 0 ≤ b.getD i 0
theorem Le.refl (a : List Nat) : Le a a := ⟨rfl, fun _ => Nat.le_refl _⟩
theorem Le.trans {a b c : List Nat} (h : Le a b) (k : Le b c) : Le a c := ⟨h.1.trans k.1, fun i => Nat.le_trans (h.2 i) (k.2 i)⟩
theorem list_ext {a b : List Nat} (hl : a.length = b.length) (h : ∀ i, a.getD i 0 = b.getD i 0) : a = b := by
  apply List.ext_getElem hl
  intro i h1 h2
  have := h i
  simpa [h1, h2] using this
theorem Le.antisymm {a b : List Nat} (h : Le a b) (k : Le b a) : a = b := list_ext h.1 (fun i => Nat.le_antisymm (h.2 i) (k.2 i))
theorem adr_seg {ns ms : List Nat} (h : Le ns ms) (a k : Nat) : adr ns (a + k) + adr ms a ≤ adr ms (a + k) + adr ns a := by
  induction k with
  | zero => simp only [Nat.add_zero]; omega
  | succ k ih =>
    have := h.2 (a + k)
    rw [← Nat.add_assoc, adr_succ, adr_succ]
    omega
theorem Le.sum {a b : List Nat} (h : Le a b) : a.sum ≤ b.sum := by
  have := adr_seg h 0 a.length
  rw [Nat.zero_add, adr_all, adr_zero, adr_zero, h.1, adr_all] at this
  omega
theorem Le.sum_lt {a b : List Nat} (h : Le a b) (hne : b ≠ a) : a.sum < b.sum := by
  induction a generalizing b with
  | nil => obtain ⟨h1, _⟩ := h; exact absurd (List.eq_nil_of_length_eq_zero h1.symm) hne
  | cons x a ih =>
    cases b with
    | nil => obtain ⟨h1, _⟩ := h; cases h1
    | cons y b =>
      have h0 : x ≤ y := h.2 0
      have ht : Le a b := ⟨by have := h.1; simpa using this, fun i => by have := h.2 (i + 1); simpa using this⟩
      have hs := ht.sum
      simp only [List.sum_cons]
      by_cases hab : b = a
      · subst hab
        have : x ≠ y := fun e => hne (by rw [e])
        omega
      · have := ih ht hab
        omega

/-! ### What operands need -/
theorem encN_mono (f g : Nat) {n m : Nat} (h : n ≤ m) : (C4.encN f n).length ≤ (C4.encN g m).length := by
  induction m using Nat.strongRecOn generalizing f g n with
  | ind m ih =>
    by_cases h1 : m < 16
    · rw [C4.encN_lo h1, C4.encN_lo (show n < 16 by omega)]; simp
    · by_cases h2 : n < 16
      · rw [C4.encN_lo h2, C4.encN_hi h1]; simp
      · rw [C4.encN_hi h2, C4.encN_hi h1]
        have := ih (m / 16) (by omega) 2 2 (n := n / 16) (by omega)
        simp only [List.length_append, List.length_cons, List.length_nil]
        omega
theorem enc_up (f : Nat) {v u : Int} (h0 : 0 ≤ v) (h : v ≤ u) : (C4.enc f v).length ≤ (C4.enc f u).length := by
  unfold C4.enc
  rw [if_neg (by omega), if_neg (by omega)]
  exact encN_mono f f (by omega)
theorem enc_down (f : Nat) {v u : Int} (h0 : v ≤ 0) (h : u ≤ v) : (C4.enc f v).length ≤ (C4.enc f u).length := by
  by_cases h1 : u = 0
  · have : v = 0 := by omega
    rw [h1, this]; exact Nat.le_refl _
  · by_cases h2 : v = 0
    · subst h2
      have := C4.enc_len_pos f u
      have e : (C4.enc f 0).length = 1 := by rw [C4.enc_lo (by omega) (by omega)]; rfl
      omega
    · unfold C4.enc
      rw [if_pos (by omega), if_pos (by omega)]
      have := encN_mono 6 6 (n := (-1 - v).toNat / 16) (m := (-1 - u).toNat / 16) (by omega)
      simp only [List.length_append, List.length_cons, List.length_nil]
      omega
theorem ln_up (f : Nat) {v u : Int} (h : (0 ≤ v ∧ v ≤ u) ∨ (v ≤ 0 ∧ u ≤ v)) : C4.ln f v ≤ C4.ln f u := by
  unfold C4.ln
  split
  · rcases h with ⟨a, b⟩ | ⟨a, b⟩
    · exact enc_up f a b
    · exact enc_down f a b
  · exact Nat.le_refl _
theorem ln_pos {f : Nat} (h : C4.valid f = true) (v : Int) : 1 ≤ C4.ln f v := by
  unfold C4.ln
  rw [if_pos h]
  exact C4.enc_len_pos f v

/-- From which line the operand of line i is counted, and to which. -/
def fromL (ls : List Ln) (i : Nat) : Nat := if (ls.getD i l0).fr.isEmpty then i + 1 else pos ls (ls.getD i l0).fr
def toL (ls : List Ln) (i : Nat) : Nat := pos ls (ls.getD i l0).tgt
def opd (ls : List Ln) (ns : List Nat) (i : Nat) : Int :=
  if (ls.getD i l0).tgt.isEmpty then (ls.getD i l0).arg else (adr ns (toL ls i) : Int) - (adr ns (fromL ls i) : Int)
def nd1 (ls : List Ln) (ns : List Nat) (i : Nat) : Nat := C4.ln (ls.getD i l0).fn (opd ls ns i)
def need (ls : List Ln) (ns : List Nat) : List Nat := (List.range ls.length).map (nd1 ls ns)
theorem need_len (ls : List Ln) (ns : List Nat) : (need ls ns).length = ls.length := by simp [need]
theorem need_at (ls : List Ln) (ns : List Nat) {i : Nat} (h : i < ls.length) : (need ls ns).getD i 0 = nd1 ls ns i := by simp [need, h]
theorem need_out (ls : List Ln) (ns : List Nat) {i : Nat} (h : ¬ i < ls.length) : (need ls ns).getD i 0 = 0 := by simp [need, h]
theorem nd1_mono (ls : List Ln) {ns ms : List Nat} (h : Le ns ms) (i : Nat) : nd1 ls ns i ≤ nd1 ls ms i := by
  unfold nd1
  refine ln_up _ ?_
  unfold opd
  split
  · omega
  · generalize toL ls i = a
    generalize fromL ls i = b
    rcases Nat.le_total a b with hab | hab
    · obtain ⟨k, rfl⟩ := Nat.exists_eq_add_of_le hab
      have h1 := adr_seg h a k
      have h2 := adr_mono ns a k
      omega
    · obtain ⟨k, rfl⟩ := Nat.exists_eq_add_of_le hab
      have h1 := adr_seg h b k
      have h2 := adr_mono ns b k
      omega
theorem need_mono (ls : List Ln) {ns ms : List Nat} (h : Le ns ms) : Le (need ls ns) (need ls ms) :=
  ⟨by rw [need_len, need_len], fun i => by
    by_cases hi : i < ls.length
    · rw [need_at ls ns hi, need_at ls ms hi]; exact nd1_mono ls h i
    · rw [need_out ls ns hi]; exact Nat.zero_le _⟩

/-! ### The least lengths that suffice -/
/-- Lengths that suffice. -/
def Suff (ls : List Ln) (ms : List Nat) : Prop := ms.length = ls.length ∧ Le (need ls ms) ms
structure Least (ls : List Ln) (ns : List Nat) : Prop where
  len : ns.length = ls.length
  fix : need ls ns = ns
  min : ∀ ms, Suff ls ms → Le ns ms
theorem Least.suff {ls : List Ln} {ns : List Nat} (h : Least ls ns) : Suff ls ns := ⟨h.len, by rw [h.fix]; exact Le.refl _⟩
theorem Least.uniq {ls : List Ln} {ns ms : List Nat} (h : Least ls ns) (k : Least ls ms) : ns = ms := (h.min ms k.suff).antisymm (k.min ns h.suff)
/-- Lengths below all that suffice. -/
structure Low (ls : List Ln) (ns : List Nat) : Prop where
  len : ns.length = ls.length
  le8 : ∀ i, ns.getD i 0 ≤ 8
  ge1 : ∀ i, i < ls.length → 1 ≤ ns.getD i 0
  min : ∀ ms, Suff ls ms → Le ns ms
/-- Lines all of which can be assembled, and not too many. -/
structure Fit (ls : List Ln) : Prop where
  vl : ∀ i, i < ls.length → C4.valid (ls.getD i l0).fn = true
  wd : ∀ i, i < ls.length → C4.isW (ls.getD i l0).arg
  few : ls.length ≤ 1000
theorem pos_le (ls : List Ln) (n : Bs) : pos ls n ≤ ls.length := by
  unfold pos fnd
  cases h : ls.findIdx? fun x => decide (x.lab = n) with
  | none => exact Nat.zero_le _
  | some k => exact Nat.le_of_lt (List.findIdx?_eq_some_iff_findIdx_eq.1 h).1
theorem to_le (ls : List Ln) (i : Nat) : toL ls i ≤ ls.length := pos_le ls _
theorem from_le (ls : List Ln) {i : Nat} (h : i < ls.length) : fromL ls i ≤ ls.length := by
  unfold fromL
  split
  · omega
  · exact pos_le ls _
theorem opd_word {ls : List Ln} (F : Fit ls) {ns : List Nat} {b : Nat} (hb : b ≤ 1000) (h8 : ∀ i, ns.getD i 0 ≤ b) {i : Nat} (hi : i < ls.length) : C4.isW (opd ls ns i) := by
  unfold opd
  split
  · exact F.wd i hi
  · have h1 := adr_le h8 (toL ls i)
    have h2 := adr_le h8 (fromL ls i)
    have h3 := to_le ls i
    have h4 := from_le ls hi
    have h5 := F.few
    have h6 : b * toL ls i ≤ 1000 * 1000 := Nat.mul_le_mul hb (by omega)
    have h7 : b * fromL ls i ≤ 1000 * 1000 := Nat.mul_le_mul hb (by omega)
    unfold C4.isW
    omega
theorem low_need {ls : List Ln} (F : Fit ls) {ns : List Nat} (h : Low ls ns) : Low ls (need ls ns) :=
  ⟨need_len ls ns, fun i => by
    by_cases hi : i < ls.length
    · rw [need_at ls ns hi]; exact C4.ln_le _ (opd_word F (by omega) h.le8 hi)
    · rw [need_out ls ns hi]; omega,
   fun i hi => by rw [need_at ls ns hi]; exact ln_pos (F.vl i hi) _,
   fun ms hm => (need_mono ls (h.min ms hm)).trans hm.2⟩
theorem ones_at {n i : Nat} (hi : i < n) : (List.replicate n 1).getD i 0 = 1 := by simp [hi]
theorem ones_out {n i : Nat} (hi : ¬ i < n) : (List.replicate n 1).getD i 0 = 0 := by simp [hi]
theorem low_ones {ls : List Ln} (F : Fit ls) : Low ls (List.replicate ls.length 1) :=
  ⟨by simp, fun i => by
    by_cases hi : i < ls.length
    · rw [ones_at hi]; omega
    · rw [ones_out hi]; omega,
   fun i hi => by rw [ones_at hi]; omega,
   fun ms hm => ⟨by simp [hm.1], fun i => by
    by_cases hi : i < ls.length
    · have h1 := hm.2.2 i
      rw [need_at ls ms hi] at h1
      rw [ones_at hi]
      exact Nat.le_trans (ln_pos (F.vl i hi) (opd ls ms i)) h1
    · rw [ones_out hi]; exact Nat.zero_le _⟩⟩
theorem Low.sum_le {ls : List Ln} {ns : List Nat} (h : Low ls ns) : ns.sum ≤ 8 * ls.length := by
  have := adr_le h.le8 ns.length
  rw [adr_all, h.len] at this
  exact this
/-- Lengths that suffice and lie below all that do. -/
theorem low_least {ls : List Ln} {ns : List Nat} (h : Low ls ns) (hs : Le (need ls ns) ns) : Least ls ns :=
  ⟨h.len, Le.antisymm hs (h.min _ ⟨need_len ls ns, need_mono ls hs⟩), h.min⟩
def lfpN (ls : List Ln) : Nat → List Nat → List Nat
  | 0, ns => ns
  | k + 1, ns => if need ls ns = ns then ns else lfpN ls k (need ls ns)
def lens (ls : List Ln) : List Nat := lfpN ls (8 * ls.length + 1) (List.replicate ls.length 1)
theorem ones_up {ls : List Ln} (F : Fit ls) : Le (List.replicate ls.length 1) (need ls (List.replicate ls.length 1)) :=
  ⟨by rw [need_len]; simp, fun i => by
    by_cases hi : i < ls.length
    · have := (low_need F (low_ones F)).ge1 i hi
      rw [ones_at hi]
      exact this
    · rw [ones_out hi]; exact Nat.zero_le _⟩
theorem lfpN_least {ls : List Ln} (F : Fit ls) : ∀ (k : Nat) (ns : List Nat), Low ls ns → Le ns (need ls ns) → 8 * ls.length < ns.sum + k → Least ls (lfpN ls k ns)
  | 0, ns, h, _, hk => by have := h.sum_le; omega
  | k + 1, ns, h, hu, hk => by
    unfold lfpN
    by_cases he : need ls ns = ns
    · rw [if_pos he]
      exact low_least h (by rw [he]; exact Le.refl _)
    · rw [if_neg he]
      have := hu.sum_lt he
      exact lfpN_least F k _ (low_need F h) (need_mono ls hu) (by omega)
theorem lens_least {ls : List Ln} (F : Fit ls) : Least ls (lens ls) :=
  lfpN_least F _ _ (low_ones F) (ones_up F) (by have : 0 ≤ (List.replicate ls.length 1).sum := Nat.zero_le _; omega)
theorem lens_low {ls : List Ln} (F : Fit ls) : Low ls (lens ls) := by
  have h := lens_least F
  refine ⟨h.len, fun i => ?_, fun i hi => ?_, h.min⟩
  · have l8 : ∀ (k : Nat) (ns : List Nat), Low ls ns → ∀ i, (lfpN ls k ns).getD i 0 ≤ 8 := by
      intro k
      induction k with
      | zero => exact fun ns h => h.le8
      | succ k ih =>
        intro ns h
        unfold lfpN
        split
        · exact h.le8
        · exact ih _ (low_need F h)
    exact l8 _ _ (low_ones F) i
  · have h1 := h.fix
    have h2 : (need ls (lens ls)).getD i 0 = nd1 ls (lens ls) i := need_at ls _ hi
    rw [h1] at h2
    rw [h2]
    exact ln_pos (F.vl i hi) _
theorem least_of {ls : List Ln} (F : Fit ls) {ns : List Nat} (h : Least ls ns) : ns = lens ls := h.uniq (lens_least F)
end Go.Proofs.YtjdjkdgdbdenpaaGreatDoor
