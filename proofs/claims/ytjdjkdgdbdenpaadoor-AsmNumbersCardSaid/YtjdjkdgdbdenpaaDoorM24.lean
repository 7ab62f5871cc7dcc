/- Addresses are computed from lengths. -/
import Derived.Test.YtjdjkdgdbdenpaaDoorM22
import Derived.Test.YtjdjkdgdbdenpaaDoorM23
set_option linter.unusedVariables false
set_option linter.unusedSimpArgs false
namespace Go.Proofs.YtjdjkdgdbdenpaaDoor
open Go Go.RowKit

/-- The program in its block. -/
def PBox (w : World) (g : Nat) (lv sv av nv iv : Value) : Prop := BoxS w g 57 #[lv, sv, av, nv, iv]
theorem pbox_cells {w : World} {g : Nat} {a b c d e : Value} (h : PBox w g a b c d e) : (w.cell? ⟨g, 0, none⟩ = some a ∧ w.cell? ⟨g, 1, none⟩ = some b ∧ w.cell? ⟨g, 2, none⟩ = some c ∧ w.cell? ⟨g, 3, none⟩ = some d ∧ w.cell? ⟨g, 4, none⟩ = some e) ∧ g < w.heap.size :=
  ⟨⟨(BoxS.cell h 0).trans rfl, (BoxS.cell h 1).trans rfl, (BoxS.cell h 2).trans rfl, (BoxS.cell h 3).trans rfl, (BoxS.cell h 4).trans rfl⟩, BoxS.lt h⟩
theorem pbox_kept {w w' : World} {g : Nat} {a b c d e : Value} {r : Option Nat} (h : PBox w g a b c d e) (hg : w.grownBy w' r) (hr : r ≠ some g) : PBox w' g a b c d e := (hg.block g (BoxS.lt h) (fun e => hr e.symm)).trans h
/-- The addresses of lines, and that of the end. -/
def atE (ns : List Nat) : List Nat := (List.range (ns.length + 1)).map (adr ns)
theorem atE_of {ns ats : List Nat} (hl : ats.length = ns.length + 1) (h : ∀ j, j ≤ ns.length → ats.getD j 0 = adr ns j) : ats = atE ns := by
  apply List.ext_getElem (by simp [atE, hl])
  intro i h1 h2
  have := h i (by omega)
  simp only [List.getD_eq_getElem?_getD, List.getElem?_eq_getElem h1, Option.getD_some] at this
  rw [this]
  simp [atE]
theorem RN.keptS {w w' : World} {A : Option Addr} {c g : Nat} {ns : List Nat} (h : RN w A c ns) (hg : w.grownBy w' (some g)) (hA : ∀ ad, A = some ad → ad.block ≠ g) : RN w' A c ns :=
  ⟨h.le, h.mx, fun j hj => by
    obtain ⟨ad, e, hl⟩ := h.rd j hj
    exact ⟨ad, e, hg.cell hl (by rw [C4.add_block]; intro e'; injection e' with e'; exact hA ad e e')⟩⟩
/-- The first addresses are right. -/
def AtUpto (ns ats : List Nat) (k : Nat) : Prop := ∀ j, j ≤ k → ats.getD j 0 = adr ns j
theorem atUpto_next {ns ats : List Nat} {k : Nat} (h : AtUpto ns ats k) (hk : k + 1 < ats.length) : AtUpto ns (ats.set (k + 1) (adr ns k + ns.getD k 0)) (k + 1) := by
  intro j hj
  by_cases he : j = k + 1
  · subst he; rw [adr_succ]; simp [hk]
  · have := h j (by omega)
    simp only [List.getD_eq_getElem?_getD] at this ⊢
    rw [List.getElem?_set_ne (by omega)]
    exact this
set_option maxRecDepth 100000 in
set_option maxHeartbeats 4000000 in
theorem locate_any {w : World} {B g ga m M ca cn : Nat} {lv sv iv : Value} {An : Option Addr} {ats ns : List Nat} (hp : PBox w g lv sv (.slice (some ⟨ga, 0, none⟩) M ca) (.slice An m cn) iv)
    (ho : OwnN w B (some ⟨ga, 0, none⟩) M ca ats) (S : RN w An cn ns) (hn : ns.length = m) (h1 : m ≤ 1000) (h8 : ∀ j, ns.getD j 0 ≤ 8) (hA : ∀ ad, An = some ad → ad.block ≠ ga) (hg : g ≠ ga) (h0 : ats.getD 0 0 = 0) (hM : M = m + 1) :
    Calls Tryd.prog 35 #[.pointer (some ⟨g, 0, none⟩)] w fun e w' => e = .returned (.bool true) ∧ OwnN w' B (some ⟨ga, 0, none⟩) M ca (atE ns) ∧ w.grownBy w' (some ga) := by
  have HP := Lib.hid hp
  have HS := Lib.hid S
  have HN := Lib.hid hn
  have H8 := Lib.hid h8
  have HA := Lib.hid hA
  have HL := Lib.hid ho.len
  have HO := Lib.hid (And.intro (World.grownBy.refl w (some ga)) (And.intro ho (show AtUpto ns ats 0 from fun j hj => by rw [show j = 0 by omega]; exact h0)))
  obtain ⟨⟨p0, p1, p2, p3, p4⟩, pl⟩ := pbox_cells hp
  have HM := Lib.hid hM
  clear hp ho S hn h8 hA h0 hM
  go_enter Tryd.func35, Tryd.ntmps35
  go_wp2
  clear p0 p1 p2 p3 p4
  go_loopw [10] (fun i wr => ∃ k : Nat, k ≤ m ∧ i = .int .i64 k ∧ Hid (w.grownBy wr (some ga) ∧ ∃ ats, OwnN wr B (some ⟨ga, 0, none⟩) M ca ats ∧ AtUpto ns ats k)) (fun i _ => m - (intOf i).toNat)
  case atStart => exact ⟨0, Nat.zero_le _, rfl, Lib.hid ⟨HO.out.1, ats, HO.out.2⟩⟩
  case round =>
    obtain ⟨k, hk, rfl, H⟩ := hrel
    by_cases hlt : (k : Int) < (m : Int)
    · obtain ⟨an, hAn, n0⟩ := (HS.out.keptS H.out.1 HA.out).rd k (by have := HN.out; omega)
      subst hAn
      obtain ⟨⟨p0, p1, p2, p3, p4⟩, pl2⟩ := pbox_cells (pbox_kept HP.out H.out.1 (by intro e; injection e with e; exact hg e.symm))
      obtain ⟨hgr, ats2, ho2, hu2⟩ := H.out
      have hl2 := ho2.len
      have hMM := HM.out
      have a0 := (World.ownsRow.cellAt ho2 k (by omega)).trans (nums_at (by omega))
      have a1 := (World.ownsRow.cellAt ho2 (k + 1) (by omega)).trans (nums_at (by omega))
      have fr := World.ownsRow.frozenAt ho2 (k + 1)
      rw [hu2 k (Nat.le_refl _)] at a0
      have HU := Lib.hid (atUpto_next hu2 (by omega))
      have HW := Lib.hid (fun (v : Nat) => World.ownsRow.stored ho2 (k + 1) (.int .i64 (v : Int)))
      have hv := H8.out k
      have hs := adr_le H8.out k
      have HG := Lib.hid hgr
      have s5 : (k : Int) + 1 < (M : Int) := by omega
      have s6 : (k : Int) < (M : Int) := by omega
      clear H ho2 hu2 hgr hl2 hMM
      generalize ns.getD k 0 = v at *
      generalize adr ns k = s at *
      generalize ats2.getD (k + 1) 0 = old at *
      have hk0 : (0 : Int) ≤ (k : Int) := by omega
      have s1 : IntKind.i64.wrap ((k : Int) + 1) = (k : Int) + 1 := by rw [IntWalk.i64_in _ (by omega)]
      have s2 : IntKind.i64.wrap ((s : Int) + (v : Int)) = (s : Int) + (v : Int) := by rw [IntWalk.i64_in _ (by omega)]
      have s3 : (0 : Int) ≤ (k : Int) + 1 := by omega
      have s4 : ((k : Int) + 1).toNat = k + 1 := by omega
      have hge : ¬ (32768 : Int) < (s : Int) + (v : Int) := by omega
      have q2 := (World.cell?_setCell_other wr ⟨ga, k + 1, none⟩ ⟨g, 2, none⟩ (.int .i64 ((s : Int) + (v : Int))) (by intro e; injection e with e; exact hg e.symm)).trans p2
      have q0 := (World.cell?_setCell_other wr ⟨ga, k + 1, none⟩ ⟨ga, k, none⟩ (.int .i64 ((s : Int) + (v : Int))) (by intro e; injection e with _ e; omega)).trans a0
      go_wp2
      go_region_held3 (fun w' => w'.cell? ⟨g, 2, none⟩ = some (.slice (some ⟨ga, 0, none⟩) M ca) ∧ w'.cell? ⟨ga, k, none⟩ = some (.int .i64 (s : Int)))
        (first | (exact ⟨p2, a0⟩) | (exact ⟨q2, q0⟩) | go_keep)
        (fail)
      all_goals
        have qn : (wr.setCell ⟨ga, k + 1, none⟩ (.int .i64 ((s : Int) + (v : Int)))).cell? ⟨ga, k + 1, none⟩ = some (.int .i64 ((s : Int) + (v : Int))) := World.cell?_setCell_same _ _ _ a1
        go_wp2
        go_roundw
        case rel =>
          have hw := HW.out (s + v)
          rw [← nums_set] at hw
          exact ⟨k + 1, by omega, by go_num, Lib.hid ⟨C4.g_drew (C4.g_trans HG.out hw.2) 1, _, hw.1, HU.out⟩⟩
        case measure => simp [intOf]; omega
    · obtain rfl : k = m := by omega
      go_wp2
      go_ret
      obtain ⟨hgr, ats2, ho2, hu2⟩ := H.out
      have e := atE_of (ns := ns) (ats := ats2) (by rw [ho2.len, HN.out, HM.out]) (by rw [HN.out]; exact hu2)
      subst e
      exact ⟨rfl, ho2, hgr⟩
end Go.Proofs.YtjdjkdgdbdenpaaDoor
/- Lengths grow as far as operands need it. -/
namespace Go.Proofs.YtjdjkdgdbdenpaaDoor
open Go Go.RowKit

/-- What a call keeps that writes two blocks. -/
structure Ex (w w' : World) (a b : Option Nat) : Prop where
  os : w'.os = w.os
  tape : w'.tape = w.tape
  output : w'.output = w.output
  size : w.heap.size ≤ w'.heap.size
  block : ∀ k, k < w.heap.size → some k ≠ a → some k ≠ b → w'.heap[k]? = w.heap[k]?
section
variable {w w1 w2 : World} {a b : Option Nat}
theorem Ex.refl (w : World) (a b : Option Nat) : Ex w w a b := ⟨rfl, rfl, rfl, Nat.le_refl _, fun _ _ _ _ => rfl⟩
theorem Ex.trans (h : Ex w w1 a b) (k : Ex w1 w2 a b) : Ex w w2 a b :=
  ⟨k.os.trans h.os, k.tape.trans h.tape, k.output.trans h.output, Nat.le_trans h.size k.size, fun i hi ha hb => (k.block i (Nat.lt_of_lt_of_le hi h.size) ha hb).trans (h.block i hi ha hb)⟩
theorem Ex.of (h : Below w.heap.size w w1) : Ex w w1 a b := ⟨h.os, h.tape, h.output, h.size, fun i hi _ _ => h.block i hi⟩
theorem Ex.left (h : w.grownBy w1 a) : Ex w w1 a b := ⟨h.os, h.tape, h.output, h.size, fun i hi ha _ => h.block i hi ha⟩
theorem Ex.right (h : w.grownBy w1 b) : Ex w w1 a b := ⟨h.os, h.tape, h.output, h.size, fun i hi _ hb => h.block i hi hb⟩
theorem Ex.below {B : Nat} (h : Ex w w1 a b) (hB : B ≤ w.heap.size) (ha : ∀ k, a = some k → B ≤ k) (hb : ∀ k, b = some k → B ≤ k) : Below B w w1 :=
  ⟨h.os, h.tape, h.output, h.size, fun i hi => h.block i (by omega) (fun e => by have := ha i e.symm; omega) (fun e => by have := hb i e.symm; omega)⟩
end
theorem ex_box {w w' : World} {a b : Option Nat} {g : Nat} {t : TypeId} {cs : Array Value} (h : BoxS w g t cs) (hx : Ex w w' a b) (ha : some g ≠ a) (hb : some g ≠ b) : BoxS w' g t cs := (hx.block g h.lt ha hb).trans h
theorem ex_own {w w' : World} {a b : Option Nat} {B n s : Nat} {e : TypeId} {v : Value} {xs : List Value} (h : w.ownsRow B e s v n xs) (hx : Ex w w' a b) (ha : v.ownBlock = none ∨ v.ownBlock ≠ a) (hb : v.ownBlock = none ∨ v.ownBlock ≠ b) : w'.ownsRow B e s v n xs := by
  refine ⟨h.1, h.2.imp id ?_⟩
  rintro ⟨g, cap, cur, rfl, h1, h2, h3⟩
  refine ⟨g, cap, cur, rfl, h1, (hx.block g (C4.heap_lt h2) ?_ ?_).trans h2, h3⟩
  · intro e
    rcases ha with h | h
    · cases h
    · exact h (by rw [← e]; rfl)
  · intro e
    rcases hb with h | h
    · cases h
    · exact h (by rw [← e]; rfl)
/-- Rows of different types lie in different blocks. -/
theorem own_apart {w : World} {B B' n n' s s' : Nat} {e e' : TypeId} {v v' : Value} {xs xs' : List Value} (h : w.ownsRow B e s v n xs) (h' : w.ownsRow B' e' s' v' n' xs') (hne : e ≠ e') : v.ownBlock = none ∨ v.ownBlock ≠ v'.ownBlock := by
  rcases h.2 with ⟨rfl, _⟩ | ⟨g1, cap, cur, rfl, _, hh, _⟩
  · exact .inl rfl
  · right
    intro he
    rcases h'.2 with ⟨rfl, _⟩ | ⟨g2, cap2, cur2, rfl, _, hh2, _⟩
    · cases he
    · have : g1 = g2 := by simpa [Value.ownBlock] using he
      subst this
      rw [hh] at hh2
      injection hh2 with hh2
      injection hh2 with _ h2
      exact hne h2
theorem box_apart {w : World} {B n s g : Nat} {e t : TypeId} {v : Value} {xs : List Value} {cs : Array Value} (h : w.ownsRow B e s v n xs) (hb : BoxS w g t cs) (hne : e ≠ t) : some g ≠ v.ownBlock := by
  intro he
  rcases h.2 with ⟨rfl, _⟩ | ⟨g1, cap, cur, rfl, _, hh, _⟩
  · cases he
  · have : g = g1 := by simpa [Value.ownBlock] using he
    subst this
    unfold BoxS at hb
    rw [hh] at hb
    injection hb with hb
    injection hb with _ h2
    exact hne h2

/-! ### What a round makes of lengths -/
def stepN (ls : List Ln) (ns : List Nat) : List Nat := (List.range ls.length).map fun j => max (ns.getD j 0) (nd1 ls ns j)
def insN (ls : List Ln) (ns : List Nat) : List C4.II := (List.range ls.length).map fun j => ((ls.getD j l0).fn, opd ls ns j)
theorem stepN_len (ls : List Ln) (ns : List Nat) : (stepN ls ns).length = ls.length := by simp [stepN]
theorem insN_len (ls : List Ln) (ns : List Nat) : (insN ls ns).length = ls.length := by simp [insN]
theorem stepN_at (ls : List Ln) (ns : List Nat) {j : Nat} (h : j < ls.length) : (stepN ls ns).getD j 0 = max (ns.getD j 0) (nd1 ls ns j) := by simp [stepN, h]
theorem insN_at (ls : List Ln) (ns : List Nat) {j : Nat} (h : j < ls.length) : (insN ls ns).getD j C4.i0 = ((ls.getD j l0).fn, opd ls ns j) := by simp [insN, h]
/-- The stored instructions are those of the lines, and each line has as many bytes as they need. -/
def InsOk (ls : List Ln) (ns : List Nat) (iz : List C4.II) : Prop := iz.length = ls.length ∧ ∀ j, j < ls.length → (iz.getD j C4.i0).1 = (ls.getD j l0).fn ∧ isW (iz.getD j C4.i0).2 ∧ C4.ln (ls.getD j l0).fn (iz.getD j C4.i0).2 ≤ ns.getD j 0
/-- Behind k rounds. -/
structure LgInv (ls : List Ln) (ns : List Nat) (k : Nat) (nk : List Nat) (ik : List C4.II) (gr : Bool) : Prop where
  ln : nk.length = ls.length
  li : ik.length = ls.length
  n1 : ∀ j, j < k → nk.getD j 0 = max (ns.getD j 0) (nd1 ls ns j)
  n2 : ∀ j, k ≤ j → nk.getD j 0 = ns.getD j 0
  i1 : ∀ j, j < k → ik.getD j C4.i0 = ((ls.getD j l0).fn, opd ls ns j)
  i2 : ∀ j, k ≤ j → j < ls.length → (ik.getD j C4.i0).1 = (ls.getD j l0).fn ∧ isW (ik.getD j C4.i0).2 ∧ C4.ln (ls.getD j l0).fn (ik.getD j C4.i0).2 ≤ ns.getD j 0
  gr : gr = true ↔ ∃ j, j < k ∧ ns.getD j 0 < nd1 ls ns j
theorem lg_start {ls : List Ln} {ns : List Nat} {iz : List C4.II} (hn : ns.length = ls.length) (h : InsOk ls ns iz) : LgInv ls ns 0 ns iz false :=
  ⟨hn, h.1, fun j hj => absurd hj (by omega), fun _ _ => rfl, fun j hj => absurd hj (by omega), fun j _ hj => h.2 j hj, by simp⟩
theorem getD_set_ne {α : Type} (l : List α) (i j : Nat) (v d : α) (h : i ≠ j) : (l.set i v).getD j d = l.getD j d := by
  simp only [List.getD_eq_getElem?_getD]
  rw [List.getElem?_set_ne h]
theorem getD_set_eq {α : Type} (l : List α) (i : Nat) (v d : α) (h : i < l.length) : (l.set i v).getD i d = v := by simp [h]
theorem lg_same {ls : List Ln} {ns nk : List Nat} {ik : List C4.II} {gr : Bool} {k : Nat} (H : LgInv ls ns k nk ik gr) (hk : k < ls.length) (he : (ik.getD k C4.i0).2 = opd ls ns k) : LgInv ls ns (k + 1) nk ik gr := by
  obtain ⟨e1, _, e3⟩ := H.i2 k (Nat.le_refl _) hk
  rw [he] at e3
  have e4 : nd1 ls ns k ≤ ns.getD k 0 := e3
  refine ⟨H.ln, H.li, fun j hj => ?_, fun j hj => H.n2 j (by omega), fun j hj => ?_, fun j hj => H.i2 j (by omega), ?_⟩
  · by_cases h : j = k
    · subst h; rw [H.n2 j (Nat.le_refl _)]; omega
    · exact H.n1 j (by omega)
  · by_cases h : j = k
    · subst h
      refine Prod.ext e1 he
    · exact H.i1 j (by omega)
  · rw [H.gr]
    constructor
    · rintro ⟨j, h1, h2⟩; exact ⟨j, by omega, h2⟩
    · rintro ⟨j, h1, h2⟩
      by_cases h : j = k
      · subst h; omega
      · exact ⟨j, by omega, h2⟩
theorem lg_ins {ls : List Ln} {ns nk : List Nat} {ik : List C4.II} {gr : Bool} {k : Nat} (H : LgInv ls ns k nk ik gr) (hk : k < ls.length) (hl : nd1 ls ns k ≤ ns.getD k 0) : LgInv ls ns (k + 1) nk (ik.set k ((ls.getD k l0).fn, opd ls ns k)) gr := by
  refine ⟨H.ln, by rw [List.length_set]; exact H.li, fun j hj => ?_, fun j hj => H.n2 j (by omega), fun j hj => ?_, fun j hj => ?_, ?_⟩
  · by_cases h : j = k
    · subst h; rw [H.n2 j (Nat.le_refl _)]; omega
    · exact H.n1 j (by omega)
  · by_cases h : j = k
    · subst h; exact getD_set_eq _ _ _ _ (by rw [H.li]; exact hk)
    · rw [getD_set_ne _ _ _ _ _ (fun e => h e.symm)]; exact H.i1 j (by omega)
  · rw [getD_set_ne _ _ _ _ _ (by omega)]; exact H.i2 j (by omega)
  · rw [H.gr]
    constructor
    · rintro ⟨j, h1, h2⟩; exact ⟨j, by omega, h2⟩
    · rintro ⟨j, h1, h2⟩
      by_cases h : j = k
      · subst h; omega
      · exact ⟨j, by omega, h2⟩
theorem lg_both {ls : List Ln} {ns nk : List Nat} {ik : List C4.II} {gr : Bool} {k : Nat} (H : LgInv ls ns k nk ik gr) (hk : k < ls.length) (hl : ns.getD k 0 < nd1 ls ns k) : LgInv ls ns (k + 1) (nk.set k (nd1 ls ns k)) (ik.set k ((ls.getD k l0).fn, opd ls ns k)) true := by
  refine ⟨by rw [List.length_set]; exact H.ln, by rw [List.length_set]; exact H.li, fun j hj => ?_, fun j hj => ?_, fun j hj => ?_, fun j hj => ?_, ?_⟩
  · by_cases h : j = k
    · subst h; rw [getD_set_eq _ _ _ _ (by rw [H.ln]; exact hk)]; omega
    · rw [getD_set_ne _ _ _ _ _ (fun e => h e.symm)]; exact H.n1 j (by omega)
  · rw [getD_set_ne _ _ _ _ _ (by omega)]; exact H.n2 j (by omega)
  · by_cases h : j = k
    · subst h; exact getD_set_eq _ _ _ _ (by rw [H.li]; exact hk)
    · rw [getD_set_ne _ _ _ _ _ (fun e => h e.symm)]; exact H.i1 j (by omega)
  · rw [getD_set_ne _ _ _ _ _ (by omega)]; exact H.i2 j (by omega)
  · exact ⟨fun _ => ⟨k, by omega, hl⟩, fun _ => rfl⟩
theorem lg_end {ls : List Ln} {ns nk : List Nat} {ik : List C4.II} {gr : Bool} (H : LgInv ls ns ls.length nk ik gr) : nk = stepN ls ns ∧ ik = insN ls ns := by
  constructor
  · refine getD_ext (by rw [H.ln, stepN_len]) fun j hj => ?_
    rw [H.ln] at hj
    rw [H.n1 j hj, stepN_at ls ns hj]
  · apply List.ext_getElem (by rw [H.li, insN_len])
    intro i h1 h2
    have hi : i < ls.length := by rw [H.li] at h1; exact h1
    have e1 := H.i1 i hi
    have e2 := insN_at ls ns hi
    simp only [List.getD_eq_getElem?_getD, List.getElem?_eq_getElem h1, Option.getD_some] at e1
    simp only [List.getD_eq_getElem?_getD, List.getElem?_eq_getElem h2, Option.getD_some] at e2
    rw [e1, e2]
/-- The operand as the program computes it. -/
theorem opd_prog {ls : List Ln} {ns : List Nat} {k : Nat} (hv : vld (ls.getD k l0) = true) : opd ls ns k = (ls.getD k l0).arg + ((adr ns (spanT ls k) : Int) - (adr ns (spanF ls k) : Int)) := by
  unfold opd spanT spanF
  rcases (vld_parts hv).2.2 with ⟨h1, _⟩ | ⟨h1, _, h3, _⟩
  · rw [h1]; simp
  · have e : (ls.getD k l0).tgt.isEmpty = false := by cases hq : (ls.getD k l0).tgt with | nil => rw [hq] at h1; cases h1 | cons a b => rfl
    rw [if_neg (by rw [e]; decide), if_neg (by rw [e]; decide), if_neg (by rw [e]; decide), h3]
    omega
theorem span_le (ls : List Ln) {k : Nat} (hk : k < ls.length) : spanT ls k ≤ ls.length ∧ spanF ls k ≤ ls.length := by
  unfold spanT spanF
  refine ⟨?_, ?_⟩ <;> split
  · omega
  · exact to_le ls k
  · omega
  · exact from_le ls hk
theorem atE_at (ns : List Nat) {j : Nat} (h : j ≤ ns.length) : (atE ns).getD j 0 = adr ns j := by simp [atE, show j < ns.length + 1 by omega]
theorem spL_at (ls : List Ln) {j : Nat} (h : j < ls.length) : (spL ls).getD j (0, 0) = (spanF ls j, spanT ls j) := by simp [spL, h]
theorem lg_flag {ls : List Ln} {ns nk : List Nat} {ik : List C4.II} {gr : Bool} (H : LgInv ls ns ls.length nk ik gr) (hn : ns.length = ls.length) : gr = decide (stepN ls ns ≠ ns) := by
  by_cases h : ∃ j, j < ls.length ∧ ns.getD j 0 < nd1 ls ns j
  · rw [H.gr.2 h]
    obtain ⟨j, hj, hlt⟩ := h
    symm
    refine decide_eq_true fun e => ?_
    have := stepN_at ls ns hj
    rw [e] at this
    omega
  · have e1 : gr = false := by rw [Bool.eq_false_iff]; exact fun e => h (H.gr.1 e)
    rw [e1]
    symm
    refine decide_eq_false fun e => e ?_
    refine getD_ext (by rw [stepN_len, hn]) fun j hj => ?_
    rw [stepN_len] at hj
    rw [stepN_at ls ns hj]
    have : ¬ ns.getD j 0 < nd1 ls ns j := fun hlt => h ⟨j, hj, hlt⟩
    omega
theorem own_ge {w : World} {B n s : Nat} {e : TypeId} {v : Value} {xs : List Value} (h : w.ownsRow B e s v n xs) : ∀ k, v.ownBlock = some k → B ≤ k := fun k hk => (h.lt k hk).1
theorem ownI_at {w : World} {B gi n c k : Nat} {l : List C4.II} (h : C4.OwnI w B (some ⟨gi, 0, none⟩) n c l) (hk : k < n) :
    (w.cell? ⟨gi, k * 2, none⟩ = some (.int .u8 ((l.getD k C4.i0).1 : Int)) ∧ w.cell? ⟨gi, k * 2 + 1, none⟩ = some (.int .i32 (l.getD k C4.i0).2)) ∧ w.frozen? ⟨gi, k * 2 + 1, none⟩ = false := by
  have hl := C4.OwnI.len h
  have q := C4.is_at (l := l) (j := k) (by omega)
  exact ⟨⟨(World.ownsRow.cellAt h (k * 2) (by omega)).trans q.1, (World.ownsRow.cellAt h (k * 2 + 1) (by omega)).trans q.2⟩, World.ownsRow.frozenAt h (k * 2 + 1)⟩
theorem is_set2 (l : List C4.II) (k f : Nat) (v : Int) (hf : (l.getD k C4.i0).1 = f) : C4.is (l.set k (f, v)) = (C4.is l).set (k * 2 + 1) (.int .i32 v) := by
  induction l generalizing k with
  | nil => rfl
  | cons p l ih =>
    cases k with
    | zero =>
      have : p.1 = f := hf
      subst this
      rfl
    | succ k =>
      have := ih k hf
      rw [List.set_cons_succ, show C4.is (p :: l.set k (f, v)) = .int .u8 (p.1 : Int) :: .int .i32 p.2 :: C4.is (l.set k (f, v)) from rfl, this,
        show C4.is (p :: l) = .int .u8 (p.1 : Int) :: .int .i32 p.2 :: C4.is l from rfl, show (k + 1) * 2 + 1 = k * 2 + 1 + 1 + 1 by omega]
      rfl
theorem ownI_store {w : World} {B gi n c k f : Nat} {l : List C4.II} (h : C4.OwnI w B (some ⟨gi, 0, none⟩) n c l) (v : Int) (hf : (l.getD k C4.i0).1 = f) :
    C4.OwnI (w.setCell ⟨gi, k * 2 + 1, none⟩ (.int .i32 v)) B (some ⟨gi, 0, none⟩) n c (l.set k (f, v)) ∧ w.grownBy (w.setCell ⟨gi, k * 2 + 1, none⟩ (.int .i32 v)) (some gi) := by
  have := World.ownsRow.stored h (k * 2 + 1) (.int .i32 v)
  unfold C4.OwnI
  rw [is_set2 l k f v hf]
  exact this
theorem ownN_at {w : World} {B gn n c k : Nat} {l : List Nat} (h : OwnN w B (some ⟨gn, 0, none⟩) n c l) (hk : k < n) :
    w.cell? ⟨gn, k, none⟩ = some (.int .i64 ((l.getD k 0 : Nat) : Int)) ∧ w.frozen? ⟨gn, k, none⟩ = false := by
  have hl := OwnN.len h
  exact ⟨(World.ownsRow.cellAt h k (by omega)).trans (nums_at (by omega)), World.ownsRow.frozenAt h k⟩
theorem ownN_store {w : World} {B gn n c k : Nat} {l : List Nat} (h : OwnN w B (some ⟨gn, 0, none⟩) n c l) (v : Nat) :
    OwnN (w.setCell ⟨gn, k, none⟩ (.int .i64 (v : Int))) B (some ⟨gn, 0, none⟩) n c (l.set k v) ∧ w.grownBy (w.setCell ⟨gn, k, none⟩ (.int .i64 (v : Int))) (some gn) := by
  have := World.ownsRow.stored h k (.int .i64 (v : Int))
  unfold OwnN
  rw [nums_set]
  exact this
end Go.Proofs.YtjdjkdgdbdenpaaDoor
