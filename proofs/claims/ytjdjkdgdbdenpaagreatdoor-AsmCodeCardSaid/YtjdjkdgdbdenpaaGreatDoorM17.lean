/- Lines in memory; valid lines, by the program and by the reference. -/
import Derived.Deep.AppendLies
import Derived.Test.YtjdjkdgdbdenpaaGreatDoorM15
import Derived.Test.YtjdjkdgdbdenpaaGreatDoorM09
import Derived.Test.YtjdjkdgdbdenpaaGreatDoorM11
import Derived.Test.YtjdjkdgdbdenpaaGreatDoorM14
set_option linter.unusedVariables false
set_option linter.unusedSimpArgs false
namespace Go.Proofs.YtjdjkdgdbdenpaaGreatDoor
open Go Go.RowKit

abbrev lnV (x : Ln) : Value := .agg #[.string (strOf x.lab), .int .u8 (x.fn : Int), .int .i32 x.arg, .string (strOf x.tgt), .string (strOf x.fr)]
/-- A line as it can be held in memory. -/
structure OKx (x : Ln) : Prop where
  fn : x.fn < 256
  arg : isW x.arg
  lab : x.lab.length ≤ maxLen
  tgt : x.tgt.length ≤ maxLen
  fr : x.fr.length ≤ maxLen
theorem box5l {w w1 : World} {a b c d e : Value} {t : TypeId} (g : Below (w.alloc (.cells #[a, b, c, d, e] t)).heap.size (w.alloc (.cells #[a, b, c, d, e] t)) w1) :
    (w1.cell? ⟨w.heap.size, 0, none⟩ = some a ∧ w1.cell? ⟨w.heap.size, 1, none⟩ = some b ∧ w1.cell? ⟨w.heap.size, 2, none⟩ = some c ∧ w1.cell? ⟨w.heap.size, 3, none⟩ = some d ∧ w1.cell? ⟨w.heap.size, 4, none⟩ = some e) ∧ w.heap.size < w1.heap.size := by
  have hB := (boxS_new w t #[a, b, c, d, e]).grown (g_of_below g)
  exact ⟨⟨(hB.cell 0).trans rfl, (hB.cell 1).trans rfl, (hB.cell 2).trans rfl, (hB.cell 3).trans rfl, (hB.cell 4).trans rfl⟩, hB.lt⟩
theorem orNone_any (l : Bs) (w : World) (hm : l.length ≤ maxLen) : Calls Tryz.prog 67 #[.string (strOf l)] w fun e w' => e = .returned (.bool (orNone l)) ∧ w = w' := by
  have he := strOf_empty l
  have C := isLabel_any l
  unfold orNone
  have C := Lib.hid (fun w => C w hm)
  clear hm
  cases h0 : l.isEmpty with
  | true =>
    rw [h0] at he
    go_enter Tryz.func67, Tryz.ntmps67
    go_wp2
    go_ret
    exact ⟨rfl, rfl⟩
  | false =>
    rw [h0] at he
    rw [Bool.false_or]
    generalize isLab l = b at *
    go_enter Tryz.func67, Tryz.ntmps67
    go_wp2_with (go_at_call 69; refine (C.out _).mono ?_; rintro e w1 ⟨rfl, rfl⟩)
    go_ret
    exact ⟨rfl, rfl⟩
theorem instrOf_any (x : Ln) (w : World) : Calls Tryz.prog 40 #[lnV x] w fun e w' => e = .returned (.agg #[.int .u8 (x.fn : Int), .int .i32 x.arg]) ∧ Below w.heap.size w w' := by
  obtain ⟨lab, fn, arg, tgt, fr⟩ := x
  go_enter Tryz.func40, Tryz.ntmps40
  go_wp2
  exact bodyPost_ret (v := .agg #[.int .u8 (fn : Int), .int .i32 arg]) (by simp [results, Tryz.results40, go_sem]) rfl ⟨rfl, bal (bal (b0 w) _) _⟩
theorem vld_as (x : Ln) {a e t f l n z q : Bool} (ha : orNone x.lab = a) (he : ex x.fn x.arg = e) (ht : x.tgt.isEmpty = t) (hf : x.fr.isEmpty = f) (hl : isLab x.tgt = l) (hn : orNone x.fr = n) (hz : (x.arg == 0) = z) (hq : ((x.fn : Int) != 15) = q) :
    vld x = (a && (if t = true then f && e else l && n && z && e && q)) := by
  subst ha he ht hf hl hn hz hq
  unfold vld
  congr 1
  by_cases h : x.tgt.isEmpty = true
  · rw [if_pos h, if_pos h]
  · rw [if_neg h, if_neg h]
    have e1 : decide (x.arg = 0) = (x.arg == 0) := by by_cases h : x.arg = 0 <;> simp [h]
    have e2 : decide (x.fn ≠ 15) = ((x.fn : Int) != 15) := by
      by_cases h : x.fn = 15
      · rw [h]; rfl
      · rw [decide_eq_true h]; simp; omega
    rw [e1, e2]
set_option maxRecDepth 100000 in
set_option maxHeartbeats 4000000 in
theorem isValid_any (x : Ln) (hx : OKx x) (w : World) (hg : Vars w) : Calls Tryz.prog 45 #[lnV x] w fun e w' => e = .returned (.bool (vld x)) ∧ Below w.heap.size w w' := by
  have H1 := Lib.hid (fun w => orNone_any x.lab w hx.lab)
  have H2 := Lib.hid (fun w => orNone_any x.fr w hx.fr)
  have H3 := Lib.hid (fun w => isLabel_any x.tgt w hx.tgt)
  have H4 := Lib.hid (fun (W : World) (b : Below w.heap.size w W) => May_any x.fn x.arg (by omega) hx.arg W (hg.below b))
  have H5 := Lib.hid (fun W => instrOf_any x W)
  have k1 := strOf_empty x.tgt
  have k2 := strOf_empty x.fr
  obtain ⟨a, ha⟩ : ∃ b, orNone x.lab = b := ⟨_, rfl⟩
  obtain ⟨e, he⟩ : ∃ b, ex x.fn x.arg = b := ⟨_, rfl⟩
  obtain ⟨t, ht⟩ : ∃ b, x.tgt.isEmpty = b := ⟨_, rfl⟩
  obtain ⟨f, hf⟩ : ∃ b, x.fr.isEmpty = b := ⟨_, rfl⟩
  obtain ⟨l, hl⟩ : ∃ b, isLab x.tgt = b := ⟨_, rfl⟩
  obtain ⟨n, hn⟩ : ∃ b, orNone x.fr = b := ⟨_, rfl⟩
  obtain ⟨z, hz⟩ : ∃ b, (x.arg == 0) = b := ⟨_, rfl⟩
  obtain ⟨q, hq⟩ : ∃ b, ((x.fn : Int) != 15) = b := ⟨_, rfl⟩
  rw [vld_as x ha he ht hf hl hn hz hq]
  rw [ha] at H1
  rw [hn] at H2
  rw [hl] at H3
  rw [he] at H4
  rw [ht] at k1
  rw [hf] at k2
  clear ha he ht hf hl hn hx hg
  obtain ⟨lab, fn, arg, tgt, fr⟩ := x
  simp only at H1 H2 H3 H4 H5 k1 k2 hz hq
  rcases (show a = false ∨ (a = true ∧ e = false) ∨ (a = true ∧ e = true ∧ t = true) ∨ (a = true ∧ e = true ∧ t = false ∧ l = false) ∨ (a = true ∧ e = true ∧ t = false ∧ l = true ∧ n = false) ∨ (a = true ∧ e = true ∧ t = false ∧ l = true ∧ n = true ∧ z = false) ∨ (a = true ∧ e = true ∧ t = false ∧ l = true ∧ n = true ∧ z = true) by
    cases a <;> cases e <;> cases t <;> cases l <;> cases n <;> cases z <;> simp) with rfl | ⟨rfl, rfl⟩ | ⟨rfl, rfl, rfl⟩ | ⟨rfl, rfl, rfl, rfl⟩ | ⟨rfl, rfl, rfl, rfl, rfl⟩ | ⟨rfl, rfl, rfl, rfl, rfl, rfl⟩ | ⟨rfl, rfl, rfl, rfl, rfl, rfl⟩
  all_goals
    simp only [Bool.false_and, Bool.true_and, Bool.and_true, Bool.and_false, if_true, if_false, Bool.false_eq_true, ite_self]
    go_enter Tryz.func45, Tryz.ntmps45
    go_wp2_with (first
      | (go_at_call 67; ((with_reducible refine (H1.out _).mono ?_); rintro e w1 ⟨rfl, rfl⟩))
      | (go_at_call 67; ((with_reducible refine (H2.out _).mono ?_); rintro e w1 ⟨rfl, rfl⟩))
      | (go_at_call 69; ((with_reducible refine (H3.out _).mono ?_); rintro e w1 ⟨rfl, rfl⟩))
      | (go_at_call 40; refine (H5.out _).mono ?_; rintro e w2 ⟨rfl, b2⟩; have B2 := Lib.hid (blw (bal (b0 w) _) b2); obtain ⟨⟨c0, c1, c2, c3, c4⟩, c5⟩ := box5l b2; clear b2)
      | (go_at_call 68; refine (H4.out _ B2.out).mono ?_; rintro e w3 ⟨rfl, b3⟩; have B3 := Lib.hid (blw B2.out b3); obtain ⟨d1, d2⟩ := bcell b3; clear b3))
    go_ret
    exact ⟨rfl, by first | exact B3.out | exact bal (b0 w) _⟩
end Go.Proofs.YtjdjkdgdbdenpaaGreatDoor
/- Slices of lines and of numbers: what can be read, rows of a call's own, appends. -/
namespace Go.Proofs.YtjdjkdgdbdenpaaGreatDoor
open Go Go.RowKit
open C4 (add_block add_add_ add_plain add_succ_ g_app2)

/-! ### Lines -/
def lnC (x : Ln) : List Value := [.string (strOf x.lab), .int .u8 (x.fn : Int), .int .i32 x.arg, .string (strOf x.tgt), .string (strOf x.fr)]
def lnCs (ls : List Ln) : List Value := ls.flatMap lnC
theorem lnCs_app (a b : List Ln) : lnCs (a ++ b) = lnCs a ++ lnCs b := by simp [lnCs]
theorem lnCs_len (ls : List Ln) : (lnCs ls).length = ls.length * 5 := by
  induction ls with
  | nil => rfl
  | cons x ls ih => rw [show lnCs (x :: ls) = lnC x ++ lnCs ls from rfl, List.length_append, ih]; simp [lnC]; omega
theorem lnCs_one (ls : List Ln) : ∀ v ∈ lnCs ls, v.oneCell' = true := by
  intro v hv
  simp only [lnCs, List.mem_flatMap, lnC, List.mem_cons, List.not_mem_nil, or_false] at hv
  obtain ⟨p, _, rfl | rfl | rfl | rfl | rfl⟩ := hv <;> rfl
theorem lnCs_at {ls : List Ln} {j i : Nat} (h : j < ls.length) (hi : i < 5) : (lnCs ls)[j * 5 + i]? = (lnC (ls.getD j l0))[i]? := by
  induction ls generalizing j with
  | nil => simp at h
  | cons x ls ih =>
    rw [show lnCs (x :: ls) = lnC x ++ lnCs ls from rfl]
    cases j with
    | zero =>
      rw [Nat.zero_mul, Nat.zero_add, List.getElem?_append_left (by simp [lnC]; omega)]
      rfl
    | succ j =>
      have := ih (j := j) (by simpa using h)
      rw [List.getElem?_append_right (by simp [lnC]; omega), List.getD_cons_succ, ← this]
      congr 1
      simp [lnC]
      omega
/-- A line lies from an address on. -/
def LnAt (w : World) (p : Addr) (x : Ln) : Prop :=
  w.cell? p = some (.string (strOf x.lab)) ∧ w.cell? ⟨p.block, p.off + 1, none⟩ = some (.int .u8 (x.fn : Int)) ∧ w.cell? ⟨p.block, p.off + 2, none⟩ = some (.int .i32 x.arg) ∧
  w.cell? ⟨p.block, p.off + 3, none⟩ = some (.string (strOf x.tgt)) ∧ w.cell? ⟨p.block, p.off + 4, none⟩ = some (.string (strOf x.fr))
theorem LnAt.below {B : Nat} {w w' : World} {p : Addr} {x : Ln} (h : LnAt w p x) (hb : Below B w w') (hp : p.block < B) : LnAt w' p x :=
  ⟨(hb.cell hp).trans h.1, (hb.cell (p := ⟨p.block, p.off + 1, none⟩) hp).trans h.2.1, (hb.cell (p := ⟨p.block, p.off + 2, none⟩) hp).trans h.2.2.1, (hb.cell (p := ⟨p.block, p.off + 3, none⟩) hp).trans h.2.2.2.1, (hb.cell (p := ⟨p.block, p.off + 4, none⟩) hp).trans h.2.2.2.2⟩
theorem LnAt.keep {w w' : World} {p : Addr} {x : Ln} (h : LnAt w p x) (hb : Below w.heap.size w w') : LnAt w' p x := h.below hb (g_lt h.1)
def OKL (ls : List Ln) : Prop := ∀ x ∈ ls, OKx x
theorem okx_l0 : OKx l0 := ⟨by decide, ⟨by decide, by decide⟩, by simp [l0], by simp [l0], by simp [l0]⟩
theorem OKL.get {ls : List Ln} (h : OKL ls) (j : Nat) : OKx (ls.getD j l0) := by
  by_cases hj : j < ls.length
  · have e : ls.getD j l0 = ls[j] := by simp [hj]
    rw [e]; exact h _ (List.getElem_mem hj)
  · have e : ls.getD j l0 = l0 := by simp [List.getElem?_eq_none (show ls.length ≤ j by omega)]
    rw [e]; exact okx_l0
theorem OKL.app {a b : List Ln} (h : OKL a) (h' : OKL b) : OKL (a ++ b) := fun x hx => (List.mem_append.1 hx).elim (h x) (h' x)
/-- A slice of lines that can be read. -/
structure RL (w : World) (A : Option Addr) (c : Nat) (ls : List Ln) : Prop where
  le : ls.length ≤ c
  mx : c ≤ maxLen
  ok : OKL ls
  rd : ∀ j, j < ls.length → ∃ ad, A = some ad ∧ LnAt w (ad.add (j * 5)) (ls.getD j l0)
theorem RL.keep {w w' : World} {A : Option Addr} {c : Nat} {ls : List Ln} (h : RL w A c ls) (hb : Below w.heap.size w w') : RL w' A c ls :=
  ⟨h.le, h.mx, h.ok, fun j hj => by obtain ⟨ad, e, hl⟩ := h.rd j hj; exact ⟨ad, e, hl.keep hb⟩⟩
theorem RL.keepB {B : Nat} {w w' : World} {A : Option Addr} {c : Nat} {ls : List Ln} (h : RL w A c ls) (hb : Below B w w') (hA : ∀ ad, A = some ad → 0 < ls.length → ad.block < B) : RL w' A c ls :=
  ⟨h.le, h.mx, h.ok, fun j hj => by obtain ⟨ad, e, hl⟩ := h.rd j hj; exact ⟨ad, e, hl.below hb (by rw [add_block]; exact hA ad e (by omega))⟩⟩
theorem RL.nil (w : World) : RL w none 0 [] := ⟨Nat.le_refl _, by simp [maxLen], (fun _ h => (by cases h)), (fun j h => absurd h (by simp))⟩
/-- A row of lines of the call's own. -/
def OwnL (w : World) (B : Nat) (A : Option Addr) (n c : Nat) (ls : List Ln) : Prop := w.ownsRow B 60 5 (.slice A n c) n (lnCs ls)
theorem OwnL.len {w : World} {B n c : Nat} {A : Option Addr} {ls : List Ln} (h : OwnL w B A n c ls) : ls.length = n := by
  have := h.1
  rw [lnCs_len] at this
  omega
theorem OwnL.rl {w : World} {B n c : Nat} {A : Option Addr} {ls : List Ln} (h : OwnL w B A n c ls) (ho : OKL ls) : RL w A c ls := by
  have hl := h.len
  rcases h.2 with ⟨hv, h0⟩ | ⟨g, cap, cur, hv, hB, hh, hnc, hm, hcs, hx⟩
  · injection hv with h1 h2 h3
    subst h1
    obtain rfl : ls = [] := List.eq_nil_of_length_eq_zero (by omega)
    exact ⟨by simp, by rw [h3]; simp [maxLen], ho, (fun j h => absurd h (by simp))⟩
  · injection hv with h1 h2 h3
    subst h1 h3
    refine ⟨by omega, hm, ho, fun j hj => ⟨_, rfl, ?_⟩⟩
    have hc : ∀ i, i < 5 → ∀ v, (lnC (ls.getD j l0))[i]? = some v → w.cell? ((⟨g, 0, none⟩ : Addr).add (j * 5 + i)) = some v := fun i hi v hv => World.ownsRow.cells h rfl (j * 5 + i) v ((lnCs_at hj hi).trans hv)
    have e : ∀ i, w.cell? ⟨((⟨g, 0, none⟩ : Addr).add (j * 5)).block, ((⟨g, 0, none⟩ : Addr).add (j * 5)).off + i, none⟩ = w.cell? ((⟨g, 0, none⟩ : Addr).add (j * 5 + i)) := fun i => by rw [add_plain, add_plain, ← Nat.add_assoc]
    refine ⟨hc 0 (by decide) _ rfl, (e 1).trans (hc 1 (by decide) _ rfl), (e 2).trans (hc 2 (by decide) _ rfl), (e 3).trans (hc 3 (by decide) _ rfl), (e 4).trans (hc 4 (by decide) _ rfl)⟩
theorem line_info : (Tryz.prog.info? 60).map (fun i => (i.zero, i.size, i.bytes)) = some (some (.agg #[.string ⟨#[]⟩, .int .u8 0, .int .i32 0, .string ⟨#[]⟩, .string ⟨#[]⟩]), 5, 56) := by kernel_rfl
/-- The cells of the lines of a slice. -/
theorem RL.cells {w : World} {A : Option Addr} {c : Nat} {ls : List Ln} (R : RL w A c ls) {ad : Addr} (e : A = some ad) : ∀ j u, (lnCs ls)[j]? = some u → w.cell? (ad.add j) = some u := by
  intro j u hj
  have hjl : j < ls.length * 5 := by
    have := (List.getElem?_eq_some_iff.1 hj).1
    rwa [lnCs_len] at this
  obtain ⟨ad', e', h0, h1, h2, h3, h4⟩ := R.rd (j / 5) (by omega)
  rw [e] at e'
  cases e'
  have hd : j = j / 5 * 5 + j % 5 := by omega
  have hm : j % 5 < 5 := Nat.mod_lt _ (by decide)
  have hc := lnCs_at (ls := ls) (j := j / 5) (i := j % 5) (by omega) hm
  rw [← hd, hj] at hc
  have ha : ∀ i, i ≠ 0 → ad.add (j / 5 * 5 + i) = ⟨(ad.add (j / 5 * 5)).block, (ad.add (j / 5 * 5)).off + i, none⟩ := fun i hi => by
    obtain ⟨k, rfl⟩ := Nat.exists_eq_succ_of_ne_zero hi
    rw [← add_add_, add_succ_]
  generalize j / 5 = q at *
  generalize j % 5 = r at *
  subst hd
  match r, hm with
  | 0, _ => rw [Nat.add_zero, h0]; exact hc.symm
  | 1, _ => rw [ha 1 (by decide), h1]; exact hc.symm
  | 2, _ => rw [ha 2 (by decide), h2]; exact hc.symm
  | 3, _ => rw [ha 3 (by decide), h3]; exact hc.symm
  | 4, _ => rw [ha 4 (by decide), h4]; exact hc.symm
/-- Lines appended to a row of the call's own: what the builtin does. -/
theorem run_lns {w : World} {base n c m d : Nat} {A A' : Option Addr} {xs ys : List Ln} {ty : TypeId} (hown : OwnL w base A n c xs) (hy : ys.length = m) (hm : 0 < m) (R : RL w A' d ys) (h63 : n + m ≤ 1000000) (hbase : base ≤ w.heap.size) :
    ∃ A2 c2 w', (Builtin.append_ #[22, 22] ty #[.slice A n c, .slice A' m d]).run Tryz.prog w = .ok (.slice A2 (n + m) c2) w' ∧ OwnL w' base A2 (n + m) c2 (xs ++ ys) ∧ w.grownBy w' (Value.slice A n c).ownBlock := by
  obtain ⟨i0, hi0, hz0, hz1, hz2⟩ := info_parts line_info
  obtain ⟨ad, rfl, _⟩ := R.rd 0 (by omega)
  obtain ⟨g, cap, w', hr, h1, h2, _⟩ := run_append_lies (P := Tryz.prog) w 22 ty base 60 i0 (.agg #[.string ⟨#[]⟩, .int .u8 0, .int .i32 0, .string ⟨#[]⟩, .string ⟨#[]⟩]) 5 56 Tryz.underlying22 hi0 hz0 hz1 hz2 rfl (by omega) (.slice A n c) n (lnCs xs) hown ad m d (lnCs ys) (by rw [lnCs_len, hy]) (R.cells rfl) (lnCs_one ys) hm
    (by unfold maxLen; omega) (by omega) hbase w.heap.size rfl
  exact ⟨_, _, w', hr, by unfold OwnL; rw [lnCs_app]; exact h1, h2⟩
set_option maxRecDepth 100000 in
theorem run_lns_none {w : World} {base n c d : Nat} {A A' : Option Addr} {xs : List Ln} {ty : TypeId} (hown : OwnL w base A n c xs) : (Builtin.append_ #[22, 22] ty #[.slice A n c, .slice A' 0 d]).run Tryz.prog w = .ok (.slice A n c) w := by
  obtain ⟨i0, hi0, hz0, hz1, hz2⟩ := info_parts line_info
  rcases hown.2 with ⟨hv, h0⟩ | ⟨g, cap, cur, hv, _, _, hnc, _⟩
  · injection hv with h1 h2 h3
    subst h1; subst h3
    simp [Builtin.append_, run_underlying Tryz.underlying22, sizeOf, typeInfo, hi0, Builtin.lenOf, Builtin.firstCells, h0]
    rcases A' with _ | ad
    · simp
    · have hld := run_loadCells_list (P := Tryz.prog) w ad [] (by intro j u hj; simp at hj)
      simp only [List.length_nil] at hld
      simp [hld]
  · injection hv with h1 h2 h3
    subst h1; subst h3
    simp [Builtin.append_, run_underlying Tryz.underlying22, sizeOf, typeInfo, hi0, Builtin.lenOf, Builtin.firstCells, hnc, storeCells]
    rcases A' with _ | ad
    · simp [storeCells]
    · have hld := run_loadCells_list (P := Tryz.prog) w ad [] (by intro j u hj; simp at hj)
      simp only [List.length_nil] at hld
      simp [hld, storeCells]
/-- Lines appended to a row of the call's own. -/
theorem app_lns {w : World} {ops : Array Oper} {rest : List Oper} {o : Oper} {a : Act} {Q : Exit → Act → World → Prop} (hgd : o.guard = none) (s x : Operand)
    (ho : o.op = .call { callee := .builtin .append, args := #[s, x], argTypes := #[22, 22] }) (base n c m d l : Nat) (A A' : Option Addr) (xs ys : List Ln) (hs : a.eval s = .slice A n c) (hx : a.eval x = .slice A' m d)
    (hown : OwnL w base A n c xs) (hy : ys.length = m) (R : RL w A' d ys) (hl : n + m = l) (h63 : l ≤ 1000000) (hbase : base ≤ w.heap.size)
    (h : ∀ A2 c2 w', OwnL w' base A2 l c2 (xs ++ ys) → w.grownBy w' (Value.slice A n c).ownBlock → wpList Tryz.prog ops Q rest (a.put o.dst (.slice A2 l c2)) w') : wpList Tryz.prog ops Q (o :: rest) a w := by
  subst hl
  refine wpList_plain hgd fun K hK => ?_
  unfold Oper.wp execOp
  rcases Nat.eq_zero_or_pos m with hm0 | hm0
  · subst hm0
    obtain rfl : ys = [] := List.eq_nil_of_length_eq_zero hy
    simp only [ho, resolve, invoke, builtin, Sem.run_bind, Sem.run_pure, Result.andThen_ok, List.map_toArray, List.map_cons, List.map_nil, hs, hx, run_lns_none hown]
    exact hK _ _ (h A c w (by rw [List.append_nil]; exact hown) (World.grownBy.refl w _))
  · obtain ⟨A2, c2, w', hr, h1, h2⟩ := run_lns (ty := o.type) hown hy hm0 R h63 hbase
    simp only [ho, resolve, invoke, builtin, Sem.run_bind, Sem.run_pure, Result.andThen_ok, List.map_toArray, List.map_cons, List.map_nil, hs, hx, hr]
    exact hK _ _ (h A2 c2 w' h1 h2)
theorem ownL_nil (w : World) (B : Nat) : OwnL w B none 0 0 [] := World.ownsRow_nil w B _ 5
/-- A new row of one line. -/
theorem rl_one {w : World} {q : Nat} {x : Ln} (hx : OKx x) (hq : w.heap[q]? = some (.cells #[.string (strOf x.lab), .int .u8 (x.fn : Int), .int .i32 x.arg, .string (strOf x.tgt), .string (strOf x.fr)] 60)) : RL w (some ⟨q, 0, none⟩) 1 [x] :=
  OwnL.rl (B := 0) (n := 1) ⟨rfl, .inr ⟨q, 1, _, rfl, Nat.zero_le _, hq, Nat.le_refl _, by unfold maxLen; decide, rfl, rfl⟩⟩ (fun y hy => by rw [List.mem_singleton.1 hy]; exact hx)

/-! ### Numbers -/
def nums (ns : List Nat) : List Value := ns.map fun (n : Nat) => Value.int .i64 (n : Int)
theorem nums_len (ns : List Nat) : (nums ns).length = ns.length := by simp [nums]
theorem nums_app (a b : List Nat) : nums (a ++ b) = nums a ++ nums b := by simp [nums]
theorem nums_at {ns : List Nat} {j : Nat} (h : j < ns.length) : (nums ns)[j]? = some (.int .i64 ((ns.getD j 0 : Nat) : Int)) := by simp [nums, h]
theorem nums_set (ns : List Nat) (i v : Nat) : nums (ns.set i v) = (nums ns).set i (.int .i64 (v : Int)) := by simp [nums]
theorem nums_one (ns : List Nat) : ∀ v ∈ nums ns, v.oneCell' = true := by
  intro v hv
  simp only [nums, List.mem_map] at hv
  obtain ⟨n, _, rfl⟩ := hv
  rfl
/-- A slice of numbers that can be read. -/
structure RN (w : World) (A : Option Addr) (c : Nat) (ns : List Nat) : Prop where
  le : ns.length ≤ c
  mx : c ≤ maxLen
  rd : ∀ j, j < ns.length → ∃ ad, A = some ad ∧ w.cell? (ad.add j) = some (.int .i64 ((ns.getD j 0 : Nat) : Int))
theorem RN.keep {w w' : World} {A : Option Addr} {c : Nat} {ns : List Nat} (h : RN w A c ns) (hb : Below w.heap.size w w') : RN w' A c ns :=
  ⟨h.le, h.mx, fun j hj => by obtain ⟨ad, e, hl⟩ := h.rd j hj; exact ⟨ad, e, (hb.cell (g_lt hl)).trans hl⟩⟩
theorem RN.nil (w : World) : RN w none 0 [] := ⟨Nat.le_refl _, by simp [maxLen], (fun j h => absurd h (by simp))⟩
def OwnN (w : World) (B : Nat) (A : Option Addr) (n c : Nat) (ns : List Nat) : Prop := w.ownsRow B 3 1 (.slice A n c) n (nums ns)
theorem OwnN.len {w : World} {B n c : Nat} {A : Option Addr} {ns : List Nat} (h : OwnN w B A n c ns) : ns.length = n := by
  have := h.1
  rw [nums_len] at this
  omega
theorem OwnN.rn {w : World} {B n c : Nat} {A : Option Addr} {ns : List Nat} (h : OwnN w B A n c ns) : RN w A c ns := by
  have hl := h.len
  rcases h.2 with ⟨hv, h0⟩ | ⟨g, cap, cur, hv, hB, hh, hnc, hm, hcs, hx⟩
  · injection hv with h1 h2 h3
    subst h1
    obtain rfl : ns = [] := List.eq_nil_of_length_eq_zero (by omega)
    exact ⟨by simp, by rw [h3]; simp [maxLen], (fun j h => absurd h (by simp))⟩
  · injection hv with h1 h2 h3
    subst h1 h3
    exact ⟨by omega, hm, fun j hj => ⟨_, rfl, World.ownsRow.cells h rfl j _ (nums_at hj)⟩⟩
theorem num_info : (Tryz.prog.info? 3).map (fun i => (i.zero, i.size, i.bytes)) = some (some (.int .i64 0), 1, 8) := by kernel_rfl
theorem ownN_nil (w : World) (B : Nat) : OwnN w B none 0 0 [] := World.ownsRow_nil w B _ 1
/-- One number appended to a row of the call's own: what the builtin does. -/
theorem run_num {w : World} {base n c k v q : Nat} {A : Option Addr} {xs : List Nat} {ty : TypeId} (hown : OwnN w base A n c xs) (hq : w.cell? ⟨q, 0, none⟩ = some (.int .i64 (v : Int))) (h63 : n ≤ 1000000) (hbase : base ≤ w.heap.size) :
    ∃ A2 c2 w', (Builtin.append_ #[26, 26] ty #[.slice A n c, .slice (some ⟨q, 0, none⟩) 1 k]).run Tryz.prog w = .ok (.slice A2 (n + 1) c2) w' ∧ OwnN w' base A2 (n + 1) c2 (xs ++ [v]) ∧ w.grownBy w' (Value.slice A n c).ownBlock := by
  obtain ⟨i0, hi0, hz0, hz1, hz2⟩ := info_parts num_info
  obtain ⟨g, cap, w', hr, h1, h2, _⟩ := run_append_lies (P := Tryz.prog) w 26 ty base 3 i0 (.int .i64 0) 1 8 Tryz.underlying26 hi0 hz0 hz1 hz2 rfl (by omega) (.slice A n c) n (nums xs) hown ⟨q, 0, none⟩ 1 k (nums [v]) rfl
    (by intro j u hj; match j, hj with | 0, hj => simp [nums] at hj; subst hj; exact hq) (nums_one [v]) (by omega)
    (by unfold maxLen; omega) (by omega) hbase w.heap.size rfl
  exact ⟨_, _, w', hr, by unfold OwnN; rw [nums_app]; exact h1, h2⟩
theorem app_num {w : World} {ops : Array Oper} {rest : List Oper} {o : Oper} {a : Act} {Q : Exit → Act → World → Prop} (hgd : o.guard = none) (s x : Operand)
    (ho : o.op = .call { callee := .builtin .append, args := #[s, x], argTypes := #[26, 26] }) (base n c k v q : Nat) (A : Option Addr) (xs : List Nat) (hs : a.eval s = .slice A n c) (hx : a.eval x = .slice (some ⟨q, 0, none⟩) 1 k)
    (hown : OwnN w base A n c xs) (hq : w.cell? ⟨q, 0, none⟩ = some (.int .i64 (v : Int))) (h63 : n ≤ 1000000) (hbase : base ≤ w.heap.size)
    (h : ∀ A2 c2 w', OwnN w' base A2 (n + 1) c2 (xs ++ [v]) → w.grownBy w' (Value.slice A n c).ownBlock → wpList Tryz.prog ops Q rest (a.put o.dst (.slice A2 (n + 1) c2)) w') : wpList Tryz.prog ops Q (o :: rest) a w := by
  refine wpList_plain hgd fun K hK => ?_
  obtain ⟨A2, c2, w', hr, h1, h2⟩ := run_num (ty := o.type) (k := k) hown hq h63 hbase
  unfold Oper.wp execOp
  simp only [ho, resolve, invoke, builtin, Sem.run_bind, Sem.run_pure, Result.andThen_ok, List.map_toArray, List.map_cons, List.map_nil, hs, hx, hr]
  exact hK _ _ (h A2 c2 w' h1 h2)
/-- The same in a statement whose order is open. -/
theorem step_num {X : World} {ops : Array Oper} {o : Oper} {a : Act} {K : Act → World → Prop} {Q : Exit → Act → World → Prop} {E : Prop} (hgd : o.guard = none) (s x : Operand)
    (ho : o.op = .call { callee := .builtin .append, args := #[s, x], argTypes := #[26, 26] }) (base n c k v q : Nat) (A : Option Addr) (xs : List Nat) (hs : a.eval s = .slice A n c) (hx : a.eval x = .slice (some ⟨q, 0, none⟩) 1 k)
    (hown : OwnN X base A n c xs) (hq : X.cell? ⟨q, 0, none⟩ = some (.int .i64 (v : Int))) (h63 : n ≤ 1000000) (hbase : base ≤ X.heap.size)
    (h : ∀ A2 c2 w', OwnN w' base A2 (n + 1) c2 (xs ++ [v]) → X.grownBy w' (Value.slice A n c).ownBlock → K (a.put o.dst (.slice A2 (n + 1) c2)) w') :
    if Region.wanted o (yielded ops a.tmps) = true then Oper.wp Tryz.prog o a X K Q else E := by
  have hw : Region.wanted o (yielded ops a.tmps) = true := by simp [Region.wanted, hgd]
  rw [if_pos hw]
  obtain ⟨A2, c2, w', hr, h1, h2⟩ := run_num (ty := o.type) (k := k) hown hq h63 hbase
  unfold Oper.wp execOp
  simp only [ho, resolve, invoke, builtin, Sem.run_bind, Sem.run_pure, Result.andThen_ok, List.map_toArray, List.map_cons, List.map_nil, hs, hx, hr]
  exact h A2 c2 w' h1 h2
/-! ### Frames -/
theorem bgrow {w X Y : World} {v : Value} {e : TypeId} {s n B : Nat} {xs : List Value} (h : Below w.heap.size w X) (hown : X.ownsRow B e s v n xs) (hB : w.heap.size ≤ B) (g : X.grownBy Y v.ownBlock) : Below w.heap.size w Y :=
  h.grown g h.size (fun k hk => Nat.le_trans hB (hown.lt k hk).1)
theorem own_keepB {w w' : World} {B n s : Nat} {e : TypeId} {v : Value} {xs : List Value} (h : w.ownsRow B e s v n xs) (hb : Below w.heap.size w w') : w'.ownsRow B e s v n xs :=
  h.kept (g_of_below hb) (by cases v.ownBlock <;> simp)
end Go.Proofs.YtjdjkdgdbdenpaaGreatDoor
