/- The reference: how many expressions, which names, equal trees. -/
import Derived.Deep.RegionLaw
import Derived.WalkKit
import Derived.WalkSpells
import Derived.WalkLawsBesides
import Derived.Handy
import Derived.Laws.Shifts
import Derived.Lib.Hide
import Derived.Test.YtimbiobonigdmaaGreatDoorTre
import Derived.Test.YtimbiobonigdmaaGreatDoorExe
import Derived.Test.YtimbiobonigdmaaGreatDoorRows
import Derived.Test.YtimbiobonigdmaaGreatDoorNum
import Derived.Test.YtimbiobonigdmaaGreatDoorKit
import Derived.Test.YtimbiobonigdmaaGreatDoorLxd
set_option linter.unusedVariables false
set_option linter.unusedSimpArgs false
set_option linter.unusedVariables false
set_option linter.unusedSimpArgs false
namespace Go.Proofs.YtimbiobonigdmaaGreatDoor
open Go Go.RowKit L8 L10

theorem nat_eq10 (a b : Nat) : ((a : Int) == (b : Int)) = decide (a = b) := by by_cases h : a = b <;> simp [h]; omega
theorem nat_ne10 (a b : Nat) : ((a : Int) != (b : Int)) = !decide (a = b) := by by_cases h : a = b <;> simp [h]; omega
theorem int_ne10 (a b : Int) : (a != b) = !decide (a = b) := by by_cases h : a = b <;> simp [h]
theorem sz_part {l : List Ex} {j : Nat} (h : j < l.length) : szL (l.take j) + szE (l.getD j e0) ≤ szL l := by
  have := szL_take h
  have h2 : szL (l.take (j + 1)) ≤ szL l := by
    have e := szL_app (l.take (j + 1)) (l.drop (j + 1))
    rw [List.take_append_drop] at e
    omega
  omega
set_option maxRecDepth 100000 in
set_option maxHeartbeats 16000000 in
theorem RSameX_any : ∀ e : Ex, ∀ (f : Ex) (A B : Option Addr) (n m c d : Nat) (w : World), TrR w A c e.l → e.l.length = n → TrR w B d f.l → f.l.length = m → Calls Tryz.prog 11 #[exV e A n c, exV f B m d] w fun en w' => en = .returned (.bool (decide (e = f))) ∧ Below w.heap.size w w' := by
  refine Ex.ind fun e ih f A B n m c d w R hn Q hm => ?_
  rw [← same_dec]
  have HN := Lib.hid hn
  have HM := Lib.hid hm
  have hnx : n ≤ maxLen := by have := R.le; have := R.mx; omega
  have hmx : m ≤ maxLen := by have := Q.le; have := Q.mx; omega
  unfold maxLen at hnx hmx
  have HV : Hid (Below w.heap.size w ((w.alloc (.cells (exC e A n c) 27)).alloc (.cells (exC f B m d) 27)) ∧ TrR ((w.alloc (.cells (exC e A n c) 27)).alloc (.cells (exC f B m d) 27)) A c e.l ∧ TrR ((w.alloc (.cells (exC e A n c) 27)).alloc (.cells (exC f B m d) 27)) B d f.l ∧ BoxS ((w.alloc (.cells (exC e A n c) 27)).alloc (.cells (exC f B m d) 27)) w.heap.size 27 (exC e A n c) ∧ BoxS ((w.alloc (.cells (exC e A n c) 27)).alloc (.cells (exC f B m d) 27)) (w.heap.size + 1) 27 (exC f B m d)) := Lib.hid (by
    have h2 := boxS_new (w.alloc (.cells (exC e A n c) 27)) 27 (exC f B m d)
    rw [World.size_alloc] at h2
    have b := bal (bal (b0 w) (.cells (exC e A n c) 27)) (.cells (exC f B m d) 27)
    exact ⟨b, R.keep b, Q.keep b, (boxS_new w _ _).alloc _, h2⟩)
  have IH : Hid (∀ j, j < n → ∀ (y : Ex) (A B : Option Addr) (n m c d : Nat) (X : World), TrR X A c (e.l.getD j e0).l → (e.l.getD j e0).l.length = n → TrR X B d y.l → y.l.length = m → Calls Tryz.prog 11 #[exV (e.l.getD j e0) A n c, exV y B m d] X fun en w' => en = .returned (.bool (sameE (e.l.getD j e0) y)) ∧ Below X.heap.size X w') := Lib.hid fun j hj y A B n m c d X R h Q g => by
    have := ih _ (getD_memE (by omega)) y A B n m c d X R h Q g
    rwa [← same_dec] at this
  have qk := nat_ne10 e.k f.k
  have qo := nat_ne10 e.o f.o
  have qt := nat_ne10 e.t f.t
  have qn := int_ne10 e.n f.n
  have qs := eqS e.s f.s
  have ql := nat_ne10 n m
  have hsame : sameE e f = (decide (e.k = f.k) && (decide (e.o = f.o) && (decide (e.t = f.t) && (decide (e.n = f.n) && (decide (e.s = f.s) && sameL e.l f.l))))) := by
    cases e; cases f; rw [sameE]; rfl
  have HLen := Lib.hid (fun (h : n ≠ m) => sameL_len (l := e.l) (m := f.l) (by omega))
  have HNot := Lib.hid (fun (j : Nat) (h1 : j < n) (h2 : j < m) (g : sameE (e.l.getD j e0) (f.l.getD j e0) = false) => sameL_not (l := e.l) (m := f.l) (i := j) (by omega) (by omega) g)
  have HAll := Lib.hid (fun (h : n = m) (g : ∀ i, i < n → sameE (e.l.getD i e0) (f.l.getD i e0) = true) => sameL_all (l := e.l) (m := f.l) (by omega) (by rw [hn]; exact g))
  rw [hsame]
  clear hsame R Q hn hm ih
  have HBel : Hid (Below w.heap.size w ((w.alloc (.cells (exC e A n c) 27)).alloc (.cells (exC f B m d) 27))) := Lib.hid HV.out.1
  dsimp only [exV, exC] at *
  generalize strOf e.s = S at *
  generalize strOf f.s = S' at *
  generalize decide (e.k = f.k) = b1 at *
  generalize decide (e.o = f.o) = b2 at *
  generalize decide (e.t = f.t) = b3 at *
  generalize decide (e.n = f.n) = b4 at *
  generalize decide (e.s = f.s) = b5 at *
  by_cases hall : b1 = true ∧ b2 = true ∧ b3 = true ∧ b4 = true ∧ b5 = true ∧ n = m
  · obtain ⟨rfl, rfl, rfl, rfl, rfl, rfl⟩ := hall
    rw [decide_eq_true rfl] at ql
    simp only [Bool.true_and]
    go_enter Tryz.func11, Tryz.ntmps11
    go_wp2
    generalize (w.alloc (.cells #[.int .u8 (e.k : Int), .int .u8 (e.o : Int), .int .u8 (e.t : Int), .int .i32 e.n, .string S, .slice A n c] 27)).alloc (.cells #[.int .u8 (f.k : Int), .int .u8 (f.o : Int), .int .u8 (f.t : Int), .int .i32 f.n, .string S', .slice B n d] 27) = V at *
    go_loopw [5] (fun i wr => ∃ j : Nat, j ≤ n ∧ i = .int .i64 j ∧ Hid ((Below w.heap.size w wr ∧ TrR wr A c e.l ∧ TrR wr B d f.l ∧ wr.cell? ⟨w.heap.size, 5, none⟩ = some (.slice A n c) ∧ wr.cell? ⟨w.heap.size + 1, 5, none⟩ = some (.slice B n d)) ∧ ∀ i, i < j → sameE (e.l.getD i e0) (f.l.getD i e0) = true)) (fun i _ => n - (intOf i).toNat)
    case atStart => exact ⟨0, Nat.zero_le _, rfl, Lib.hid ⟨⟨HV.out.1, HV.out.2.1, HV.out.2.2.1, (HV.out.2.2.2.1.cell 5).trans rfl, (HV.out.2.2.2.2.cell 5).trans rfl⟩, fun i hi => absurd hi (by omega)⟩⟩
    case round =>
      obtain ⟨j, hj, rfl, H⟩ := hrel
      have hj0 : (0 : Int) ≤ (j : Int) := by omega
      obtain ⟨hB, hR, hQ, p5, r5⟩ := H.out.1
      have HB := Lib.hid hB
      by_cases hlt : (j : Int) < (n : Int)
      · obtain ⟨ad, rfl, B1, m1, d1, hm1, _, R1, x0, x1, x2, x3, x4, x5⟩ := hR.at (j := j) (by have := HN.out; omega)
        obtain ⟨ae, rfl, B2, m2, d2, hm2, _, R2, y0, y1, y2, y3, y4, y5⟩ := hQ.at (j := j) (by have := HM.out; omega)
        have C : Hid (Calls Tryz.prog 11 #[exV (e.l.getD j e0) B1 m1 d1, exV (f.l.getD j e0) B2 m2 d2] wr.drew fun en w' => en = .returned (.bool (sameE (e.l.getD j e0) (f.l.getD j e0))) ∧ Below wr.drew.heap.size wr.drew w') := Lib.hid (IH.out j (by omega) (f.l.getD j e0) B1 B2 m1 m2 d1 d2 wr.drew (R1.keep (bdrew (b0 wr) 1)) hm1 (R2.keep (bdrew (b0 wr) 1)) hm2)
        have HK := Lib.hid (fun (X : World) (b : Below wr.heap.size wr X) => show Below w.heap.size w X ∧ TrR X (some ad) c e.l ∧ TrR X (some ae) d f.l ∧ X.cell? ⟨w.heap.size, 5, none⟩ = some (.slice (some ad) n c) ∧ X.cell? ⟨w.heap.size + 1, 5, none⟩ = some (.slice (some ae) n d) from ⟨blw HB.out b, hR.keep b, hQ.keep b, (b.cell (g_lt p5)).trans p5, (b.cell (g_lt r5)).trans r5⟩)
        have hno := HNot.out j (by omega) (by omega)
        have HJ := Lib.hid (show sameE (e.l.getD j e0) (f.l.getD j e0) = true → ∀ i, i < j + 1 → sameE (e.l.getD i e0) (f.l.getD i e0) = true from fun h i hi => if h2 : i < j then H.out.2 i h2 else by rw [show i = j by omega]; exact h)
        clear R1 R2 hm1 hm2 H hB hR hQ
        dsimp only [exV] at C
        generalize sameE (e.l.getD j e0) (f.l.getD j e0) = b at *
        generalize e.l.getD j e0 = x at *
        generalize f.l.getD j e0 = y at *
        generalize strOf x.s = SX at *
        generalize strOf y.s = SY at *
        cases b with
        | false =>
          have HE := Lib.hid (hno rfl)
          clear hno
          go_wp2_with fail
          go_region_held3 (fun w' => w'.cell? ⟨w.heap.size, 5, none⟩ = some (.slice (some ad) n c) ∧ w'.cell? ⟨w.heap.size + 1, 5, none⟩ = some (.slice (some ae) n d) ∧ w'.cell? (ad.add (j * 6)) = some (.int .u8 (x.k : Int)) ∧ w'.cell? ⟨(ad.add (j * 6)).block, (ad.add (j * 6)).off + 1, none⟩ = some (.int .u8 (x.o : Int)) ∧ w'.cell? ⟨(ad.add (j * 6)).block, (ad.add (j * 6)).off + 2, none⟩ = some (.int .u8 (x.t : Int)) ∧ w'.cell? ⟨(ad.add (j * 6)).block, (ad.add (j * 6)).off + 3, none⟩ = some (.int .i32 x.n) ∧ w'.cell? ⟨(ad.add (j * 6)).block, (ad.add (j * 6)).off + 4, none⟩ = some (.string SX) ∧ w'.cell? ⟨(ad.add (j * 6)).block, (ad.add (j * 6)).off + 5, none⟩ = some (.slice B1 m1 d1) ∧ w'.cell? (ae.add (j * 6)) = some (.int .u8 (y.k : Int)) ∧ w'.cell? ⟨(ae.add (j * 6)).block, (ae.add (j * 6)).off + 1, none⟩ = some (.int .u8 (y.o : Int)) ∧ w'.cell? ⟨(ae.add (j * 6)).block, (ae.add (j * 6)).off + 2, none⟩ = some (.int .u8 (y.t : Int)) ∧ w'.cell? ⟨(ae.add (j * 6)).block, (ae.add (j * 6)).off + 3, none⟩ = some (.int .i32 y.n) ∧ w'.cell? ⟨(ae.add (j * 6)).block, (ae.add (j * 6)).off + 4, none⟩ = some (.string SY) ∧ w'.cell? ⟨(ae.add (j * 6)).block, (ae.add (j * 6)).off + 5, none⟩ = some (.slice B2 m2 d2))
            (first | (exact ⟨p5, r5, x0, x1, x2, x3, x4, x5, y0, y1, y2, y3, y4, y5⟩) | go_keep)
            (first | (go_at_call 11; (with_reducible refine (C.out).mono ?_); rintro e1 w2 ⟨rfl, b⟩; have H2 := Lib.hid (blw HB.out (blw (bdrew (b0 wr) 1) b)); have p5' := (b.cell (g_lt p5)).trans p5; have r5' := (b.cell (g_lt r5)).trans r5; have x0' := (b.cell (g_lt x0)).trans x0; have x1' := (b.cell (g_lt x1)).trans x1; have x2' := (b.cell (g_lt x2)).trans x2; have x3' := (b.cell (g_lt x3)).trans x3; have x4' := (b.cell (g_lt x4)).trans x4; have x5' := (b.cell (g_lt x5)).trans x5; have y0' := (b.cell (g_lt y0)).trans y0; have y1' := (b.cell (g_lt y1)).trans y1; have y2' := (b.cell (g_lt y2)).trans y2; have y3' := (b.cell (g_lt y3)).trans y3; have y4' := (b.cell (g_lt y4)).trans y4; have y5' := (b.cell (g_lt y5)).trans y5; clear b))
          all_goals go_wp2
          all_goals (go_ret; rw [HE.out]; exact ⟨rfl, H2.out⟩)
        | true =>
          have HY := Lib.hid (HJ.out rfl)
          clear hno
          go_wp2_with fail
          go_region_held3 (fun w' => w'.cell? ⟨w.heap.size, 5, none⟩ = some (.slice (some ad) n c) ∧ w'.cell? ⟨w.heap.size + 1, 5, none⟩ = some (.slice (some ae) n d) ∧ w'.cell? (ad.add (j * 6)) = some (.int .u8 (x.k : Int)) ∧ w'.cell? ⟨(ad.add (j * 6)).block, (ad.add (j * 6)).off + 1, none⟩ = some (.int .u8 (x.o : Int)) ∧ w'.cell? ⟨(ad.add (j * 6)).block, (ad.add (j * 6)).off + 2, none⟩ = some (.int .u8 (x.t : Int)) ∧ w'.cell? ⟨(ad.add (j * 6)).block, (ad.add (j * 6)).off + 3, none⟩ = some (.int .i32 x.n) ∧ w'.cell? ⟨(ad.add (j * 6)).block, (ad.add (j * 6)).off + 4, none⟩ = some (.string SX) ∧ w'.cell? ⟨(ad.add (j * 6)).block, (ad.add (j * 6)).off + 5, none⟩ = some (.slice B1 m1 d1) ∧ w'.cell? (ae.add (j * 6)) = some (.int .u8 (y.k : Int)) ∧ w'.cell? ⟨(ae.add (j * 6)).block, (ae.add (j * 6)).off + 1, none⟩ = some (.int .u8 (y.o : Int)) ∧ w'.cell? ⟨(ae.add (j * 6)).block, (ae.add (j * 6)).off + 2, none⟩ = some (.int .u8 (y.t : Int)) ∧ w'.cell? ⟨(ae.add (j * 6)).block, (ae.add (j * 6)).off + 3, none⟩ = some (.int .i32 y.n) ∧ w'.cell? ⟨(ae.add (j * 6)).block, (ae.add (j * 6)).off + 4, none⟩ = some (.string SY) ∧ w'.cell? ⟨(ae.add (j * 6)).block, (ae.add (j * 6)).off + 5, none⟩ = some (.slice B2 m2 d2))
            (first | (exact ⟨p5, r5, x0, x1, x2, x3, x4, x5, y0, y1, y2, y3, y4, y5⟩) | go_keep)
            (first | (go_at_call 11; (with_reducible refine (C.out).mono ?_); rintro e1 w2 ⟨rfl, b⟩; have H2 := Lib.hid (HK.out _ (blw (bdrew (b0 wr) 1) b)); have p5' := (b.cell (g_lt p5)).trans p5; have r5' := (b.cell (g_lt r5)).trans r5; have x0' := (b.cell (g_lt x0)).trans x0; have x1' := (b.cell (g_lt x1)).trans x1; have x2' := (b.cell (g_lt x2)).trans x2; have x3' := (b.cell (g_lt x3)).trans x3; have x4' := (b.cell (g_lt x4)).trans x4; have x5' := (b.cell (g_lt x5)).trans x5; have y0' := (b.cell (g_lt y0)).trans y0; have y1' := (b.cell (g_lt y1)).trans y1; have y2' := (b.cell (g_lt y2)).trans y2; have y3' := (b.cell (g_lt y3)).trans y3; have y4' := (b.cell (g_lt y4)).trans y4; have y5' := (b.cell (g_lt y5)).trans y5; clear b))
          all_goals
            go_wp2
            go_roundw
            case rel => exact ⟨j + 1, by omega, by go_num, Lib.hid ⟨H2.out, HY.out⟩⟩
            case measure => simp [intOf]; omega
      · obtain rfl : j = n := by omega
        have HE := Lib.hid (HAll.out (by first | trivial | rfl) H.out.2)
        go_wp2
        go_ret
        rw [HE.out]
        exact ⟨rfl, HB.out⟩
  · have hr : (b1 && (b2 && (b3 && (b4 && (b5 && sameL e.l f.l))))) = false := by
      cases b1 <;> cases b2 <;> cases b3 <;> cases b4 <;> cases b5 <;> simp at hall ⊢
      exact HLen.out hall
    rw [hr]
    have ql2 : b1 = true → b2 = true → b3 = true → b4 = true → b5 = true → ((n : Int) != (m : Int)) = true := fun h1 h2 h3 h4 h5 => by
      rw [ql, decide_eq_false (fun h => hall ⟨h1, h2, h3, h4, h5, h⟩)]; rfl
    clear ql hr hall IH HLen HNot HAll
    cases b1
    · go_enter Tryz.func11, Tryz.ntmps11
      go_wp2
      go_ret
      exact ⟨rfl, HBel.out⟩
    cases b2
    · go_enter Tryz.func11, Tryz.ntmps11
      go_wp2
      go_ret
      exact ⟨rfl, HBel.out⟩
    cases b3
    · go_enter Tryz.func11, Tryz.ntmps11
      go_wp2
      go_ret
      exact ⟨rfl, HBel.out⟩
    cases b4
    · go_enter Tryz.func11, Tryz.ntmps11
      go_wp2
      go_ret
      exact ⟨rfl, HBel.out⟩
    cases b5
    · go_enter Tryz.func11, Tryz.ntmps11
      go_wp2
      go_ret
      exact ⟨rfl, HBel.out⟩
    · have q6 := ql2 rfl rfl rfl rfl rfl
      clear ql2
      go_enter Tryz.func11, Tryz.ntmps11
      go_wp2
      go_ret
      exact ⟨rfl, HBel.out⟩
end Go.Proofs.YtimbiobonigdmaaGreatDoor
/- Trees of the call's own: rows that are appended to, their parts in other memory. -/
set_option linter.unusedVariables false
set_option linter.unusedSimpArgs false
namespace Go.Proofs.YtimbiobonigdmaaGreatDoor
open Go Go.RowKit L8 L10

/-- A slice of trees that can be read, its memory in blocks that N allows. -/
inductive TrN (w : World) (N : Nat → Prop) : Option Addr → Nat → List Ex → Prop
  | mk {A : Option Addr} {c : Nat} {l : List Ex} (As : Nat → Option Addr) (cs : Nat → Nat) (le : l.length ≤ c) (mx : c ≤ maxLen) (ok : ∀ j, j < l.length → OKe (l.getD j e0))
      (row : ∀ j, j < l.length → ∃ ad, A = some ad ∧ N ad.block ∧ ExAt w (ad.add (j * 6)) (l.getD j e0) (As j) (cs j)) (sub : ∀ j, j < l.length → TrN w N (As j) (cs j) (l.getD j e0).l) : TrN w N A c l
theorem TrN.tr {w : World} {N : Nat → Prop} {A : Option Addr} {c : Nat} {l : List Ex} (h : TrN w N A c l) : TrR w A c l := by
  induction h with
  | mk As cs le mx ok row sub ih => exact .mk As cs le mx ok (fun j hj => by obtain ⟨ad, e, _, h⟩ := row j hj; exact ⟨ad, e, h⟩) ih
theorem TrN.mono {w : World} {N M : Nat → Prop} {A : Option Addr} {c : Nat} {l : List Ex} (h : TrN w N A c l) (k : ∀ b, b < w.heap.size → N b → M b) : TrN w M A c l := by
  induction h with
  | mk As cs le mx ok row sub ih =>
    exact .mk As cs le mx ok (fun j hj => by
      obtain ⟨ad, e, n, h⟩ := row j hj
      have hb := g_lt h.1
      rw [add_block] at hb
      exact ⟨ad, e, k _ hb n, h⟩) ih
theorem TrN.keep {w w' : World} {N : Nat → Prop} {A : Option Addr} {c : Nat} {l : List Ex} (h : TrN w N A c l) (b : Below w.heap.size w w') : TrN w' N A c l := by
  induction h with
  | mk As cs le mx ok row sub ih => exact .mk As cs le mx ok (fun j hj => by obtain ⟨ad, e, n, h⟩ := row j hj; exact ⟨ad, e, n, h.keep b⟩) ih
theorem ExAt.grow {w w' : World} {o : Option Nat} {p : Addr} {e : Ex} {A : Option Addr} {c : Nat} (h : ExAt w p e A c) (g : w.grownBy w' o) (hp : some p.block ≠ o) : ExAt w' p e A c := by
  obtain ⟨h0, h1, h2, h3, h4, h5⟩ := h
  exact ⟨g.cell h0 hp, g.cell h1 hp, g.cell h2 hp, g.cell h3 hp, g.cell h4 hp, g.cell h5 hp⟩
theorem TrN.grow {w w' : World} {N : Nat → Prop} {o : Option Nat} {A : Option Addr} {c : Nat} {l : List Ex} (h : TrN w N A c l) (g : w.grownBy w' o) (hN : ∀ b, N b → some b ≠ o) : TrN w' N A c l := by
  induction h with
  | mk As cs le mx ok row sub ih => exact .mk As cs le mx ok (fun j hj => by obtain ⟨ad, e, n, h⟩ := row j hj; exact ⟨ad, e, n, h.grow g (by rw [add_block]; exact hN _ n)⟩) ih
theorem TrN.nil (w : World) (N : Nat → Prop) : TrN w N none 0 [] := .mk (fun _ => none) (fun _ => 0) (Nat.le_refl _) (by simp [maxLen]) (fun j h => absurd h (by simp)) (fun j h => absurd h (by simp)) (fun j h => absurd h (by simp))
/-! ### Rows of trees -/
structure It where
  e : Ex
  A : Option Addr
  c : Nat
def i0 : It := ⟨e0, none, 0⟩
def itC (x : It) : List Value := [.int .u8 (x.e.k : Int), .int .u8 (x.e.o : Int), .int .u8 (x.e.t : Int), .int .i32 x.e.n, .string (strOf x.e.s), .slice x.A x.e.l.length x.c]
def itCs (l : List It) : List Value := l.flatMap itC
theorem itCs_app (a b : List It) : itCs (a ++ b) = itCs a ++ itCs b := by simp [itCs]
theorem itCs_len (l : List It) : (itCs l).length = l.length * 6 := by
  induction l with
  | nil => rfl
  | cons x l ih => rw [show itCs (x :: l) = itC x ++ itCs l from rfl, List.length_append, ih]; simp [itC]; omega
theorem itCs_one (l : List It) : ∀ v ∈ itCs l, v.oneCell' = true := by
  intro v hv
  simp only [itCs, List.mem_flatMap, itC, List.mem_cons, List.not_mem_nil, or_false] at hv
  obtain ⟨p, _, rfl | rfl | rfl | rfl | rfl | rfl⟩ := hv <;> rfl
theorem itCs_at {l : List It} {j i : Nat} (h : j < l.length) (hi : i < 6) : (itCs l)[j * 6 + i]? = (itC (l.getD j i0))[i]? := by
  induction l generalizing j with
  | nil => simp at h
  | cons x l ih =>
    rw [show itCs (x :: l) = itC x ++ itCs l from rfl]
    cases j with
    | zero =>
      rw [Nat.zero_mul, Nat.zero_add, List.getElem?_append_left (by simp [itC]; omega)]
      rfl
    | succ j =>
      have := ih (j := j) (by simpa using h)
      rw [List.getElem?_append_right (by simp [itC]; omega), List.getD_cons_succ, ← this]
      congr 1
      simp [itC]
      omega
def OwnT (w : World) (B : Nat) (A : Option Addr) (n c : Nat) (l : List It) : Prop := w.ownsRow B 27 6 (.slice A n c) n (itCs l)
theorem OwnT.len {w : World} {B n c : Nat} {A : Option Addr} {l : List It} (h : OwnT w B A n c l) : l.length = n := by
  have := h.1
  rw [itCs_len] at this
  omega
/-- Part j does not lie where the row lies. -/
def Nb (B : Nat) (A : Option Addr) (b : Nat) : Prop := B ≤ b ∧ ∀ ad, A = some ad → ad.block ≠ b
/-- A row of trees of the call's own, the parts of each in other memory of the call's own. -/
structure TrO (w : World) (B : Nat) (A : Option Addr) (n c : Nat) (l : List It) : Prop where
  own : OwnT w B A n c l
  ok : ∀ j, j < l.length → OKe (l.getD j i0).e
  sub : ∀ j, j < l.length → TrN w (Nb B A) (l.getD j i0).A (l.getD j i0).c (l.getD j i0).e.l
theorem TrO.keep {w w' : World} {B n c : Nat} {A : Option Addr} {l : List It} (h : TrO w B A n c l) (b : Below w.heap.size w w') : TrO w' B A n c l :=
  ⟨own_keepB h.own b, h.ok, fun j hj => (h.sub j hj).keep b⟩
theorem map_getD (l : List It) (j : Nat) : (l.map It.e).getD j e0 = (l.getD j i0).e := by
  by_cases h : j < l.length
  · simp [h]
  · simp [Nat.le_of_not_lt h, i0]
theorem TrO.nil (w : World) (B : Nat) : TrO w B none 0 0 [] := ⟨World.ownsRow_nil w B _ 6, (fun j h => absurd h (by simp)), (fun j h => absurd h (by simp))⟩
theorem TrO.tr {w : World} {B n c : Nat} {A : Option Addr} {l : List It} (h : TrO w B A n c l) : TrN w (fun b => B ≤ b) A c (l.map It.e) := by
  have hl := h.own.len
  rcases h.own.2 with ⟨hv, h0⟩ | ⟨g, cap, cur, hv, hB, hh, hnc, hm, hcs, hx⟩
  · injection hv with h1 h2 h3
    subst h1 h3
    obtain rfl : l = [] := List.eq_nil_of_length_eq_zero (by omega)
    exact TrN.nil w _
  · injection hv with h1 h2 h3
    subst h1 h3
    refine .mk (fun j => (l.getD j i0).A) (fun j => (l.getD j i0).c) (by rw [List.length_map]; omega) hm (fun j hj => ?_) (fun j hj => ⟨_, rfl, hB, ?_⟩) (fun j hj => ?_)
    all_goals
      rw [List.length_map] at hj
      rw [map_getD]
    · exact h.ok j hj
    · have hc : ∀ i, i < 6 → ∀ v, (itC (l.getD j i0))[i]? = some v → w.cell? ((⟨g, 0, none⟩ : Addr).add (j * 6 + i)) = some v := fun i hi v hv => World.ownsRow.cells h.own rfl (j * 6 + i) v ((itCs_at hj hi).trans hv)
      have e : ∀ i, w.cell? ⟨((⟨g, 0, none⟩ : Addr).add (j * 6)).block, ((⟨g, 0, none⟩ : Addr).add (j * 6)).off + i, none⟩ = w.cell? ((⟨g, 0, none⟩ : Addr).add (j * 6 + i)) := fun i => by rw [add_plain, add_plain, ← Nat.add_assoc]
      exact ⟨hc 0 (by decide) _ rfl, (e 1).trans (hc 1 (by decide) _ rfl), (e 2).trans (hc 2 (by decide) _ rfl), (e 3).trans (hc 3 (by decide) _ rfl), (e 4).trans (hc 4 (by decide) _ rfl), (e 5).trans (hc 5 (by decide) _ rfl)⟩
    · exact (h.sub j hj).mono fun b _ n => n.1
theorem ex_info : (Tryz.prog.info? 27).map (fun i => (i.zero, i.size, i.bytes)) = some (some (.agg #[.int .u8 0, .int .u8 0, .int .u8 0, .int .i32 0, .string ⟨#[]⟩, .slice none 0 0]), 6, 48) := by kernel_rfl
/-- A tree appended to a row of the call's own: what the builtin does. -/
theorem run_tree {w : World} {base n c : Nat} {A : Option Addr} {l : List It} {ty : TypeId} (hown : TrO w base A n c l) (x : It) (ok : OKe x.e) (hs : TrN w (Nb base A) x.A x.c x.e.l) (ad : Addr) (hx : ∀ j u, (itC x)[j]? = some u → w.cell? (ad.add j) = some u) (h63 : n + 1 ≤ 1000000) (hbase : base ≤ w.heap.size) :
    ∃ A2 c2 w', (Builtin.append_ #[25, 25] ty #[.slice A n c, .slice (some ad) 1 1]).run Tryz.prog w = .ok (.slice A2 (n + 1) c2) w' ∧ TrO w' base A2 (n + 1) c2 (l ++ [x]) ∧ w.grownBy w' (Value.slice A n c).ownBlock := by
  obtain ⟨j0, hi0, hz0, hz1, hz2⟩ := info_parts ex_info
  obtain ⟨g, cap, w', hr, h1, h2, h3, _⟩ := run_append_lies (P := Tryz.prog) w 25 ty base 27 j0 (.agg #[.int .u8 0, .int .u8 0, .int .u8 0, .int .i32 0, .string ⟨#[]⟩, .slice none 0 0]) 6 48 Tryz.underlying25 hi0 hz0 hz1 hz2 rfl (by omega) (.slice A n c) n (itCs l) hown.own ad 1 1 (itCs [x]) (by rw [itCs_len]; rfl) (by rw [show itCs [x] = itC x from List.append_nil _]; exact hx) (itCs_one [x]) (by omega)
    (by unfold maxLen; omega) (by omega) hbase w.heap.size rfl
  have hN : ∀ b, b < w.heap.size → Nb base A b → Nb base (some ⟨g, 0, none⟩) b := fun b hb n => ⟨n.1, fun ad' e => by
    injection e with e
    subst e
    rcases h3 with h3 | h3
    · cases A with
      | none => simp [Value.ownBlock] at h3
      | some a =>
        have := n.2 a rfl
        simp [Value.ownBlock] at h3
        show g ≠ b
        omega
    · show g ≠ b
      omega⟩
  have hG : ∀ (B2 : Option Addr) (d : Nat) (k : List Ex), TrN w (Nb base A) B2 d k → TrN w' (Nb base (some ⟨g, 0, none⟩)) B2 d k := fun B2 d k t => by
    have t2 := t.mono (M := fun b => Nb base (some ⟨g, 0, none⟩) b ∧ Nb base A b) fun b hb n => ⟨hN b hb n, n⟩
    have t3 := t2.grow h2 fun b n => by
      cases A with
      | none => simp [Value.ownBlock]
      | some a =>
        have := n.2.2 a rfl
        simp [Value.ownBlock]
        omega
    exact t3.mono fun b _ n => n.1
  refine ⟨_, _, w', hr, ⟨by unfold OwnT; rw [itCs_app]; exact h1, fun j hj => ?_, fun j hj => ?_⟩, h2⟩
  all_goals
    rw [List.length_append] at hj
    have hj1 : j < l.length + 1 := hj
    by_cases hjl : j < l.length
  · rw [show (l ++ [x]).getD j i0 = l.getD j i0 by simp [hjl, List.getElem?_append_left hjl]]
    exact hown.ok j hjl
  · obtain rfl : j = l.length := by omega
    rw [show (l ++ [x]).getD l.length i0 = x by simp]
    exact ok
  · rw [show (l ++ [x]).getD j i0 = l.getD j i0 by simp [hjl, List.getElem?_append_left hjl]]
    exact hG _ _ _ (hown.sub j hjl)
  · obtain rfl : j = l.length := by omega
    rw [show (l ++ [x]).getD l.length i0 = x by simp]
    exact hG _ _ _ hs
/-- The same, at a step of a region that draws. -/
theorem step_tree {X : World} {ops : Array Oper} {o : Oper} {a : Act} {K : Act → World → Prop} {Q : Exit → Act → World → Prop} {E : Prop} (hgd : o.guard = none) (s y : Operand)
    (ho : o.op = .call { callee := .builtin .append, args := #[s, y], argTypes := #[25, 25] }) (base n c : Nat) (A : Option Addr) (l : List It) (x : It) (ad : Addr) (hs : a.eval s = .slice A n c) (hx : a.eval y = .slice (some ad) 1 1)
    (hown : TrO X base A n c l) (ok : OKe x.e) (ht : TrN X (Nb base A) x.A x.c x.e.l) (hc : ∀ j u, (itC x)[j]? = some u → X.cell? (ad.add j) = some u) (h63 : n + 1 ≤ 1000000) (hbase : base ≤ X.heap.size)
    (h : ∀ A2 c2 w', TrO w' base A2 (n + 1) c2 (l ++ [x]) → X.grownBy w' (Value.slice A n c).ownBlock → K (a.put o.dst (.slice A2 (n + 1) c2)) w') :
    if Region.wanted o (yielded ops a.tmps) = true then Oper.wp Tryz.prog o a X K Q else E := by
  have hw : Region.wanted o (yielded ops a.tmps) = true := by simp [Region.wanted, hgd]
  rw [if_pos hw]
  obtain ⟨A2, c2, w', hr, h1, h2⟩ := run_tree (ty := o.type) hown x ok ht ad hc h63 hbase
  unfold Oper.wp execOp
  simp only [ho, resolve, invoke, builtin, Sem.run_bind, Sem.run_pure, Result.andThen_ok, List.map_toArray, List.map_cons, List.map_nil, hs, hx, hr]
  exact h A2 c2 w' h1 h2
end Go.Proofs.YtimbiobonigdmaaGreatDoor
/- Frames in which several blocks may turn; the program's stack of lists of trees. -/
set_option linter.unusedVariables false
set_option linter.unusedSimpArgs false
namespace Go.Proofs.YtimbiobonigdmaaGreatDoor
open Go Go.RowKit L8 L10

/-- Only blocks that P allows have turned, and new ones. -/
structure Fr (w w' : World) (P : Nat → Prop) : Prop where
  os : w'.os = w.os
  tape : w'.tape = w.tape
  output : w'.output = w.output
  size : w.heap.size ≤ w'.heap.size
  block : ∀ k, k < w.heap.size → ¬ P k → w'.heap[k]? = w.heap[k]?
theorem Fr.below {w w' : World} {P : Nat → Prop} {n : Nat} (h : Fr w w' P) (hn : n ≤ w.heap.size) (hP : ∀ k, P k → n ≤ k) : Below n w w' :=
  ⟨h.os, h.tape, h.output, h.size, fun k hk => h.block k (by omega) fun p => by have := hP k p; omega⟩
theorem Fr.of {w w' : World} (b : Below w.heap.size w w') (P : Nat → Prop) : Fr w w' P := ⟨b.os, b.tape, b.output, b.size, fun k hk _ => b.block k hk⟩
theorem Fr.ofG {w w' : World} {r : Option Nat} (g : w.grownBy w' r) {P : Nat → Prop} (h : ∀ k, r = some k → P k) : Fr w w' P := ⟨g.os, g.tape, g.output, g.size, fun k hk hp => g.block k hk fun e => hp (h k e.symm)⟩
theorem Fr.trans {a b c : World} {P Q R : Nat → Prop} (h : Fr a b P) (g : Fr b c Q) (hP : ∀ k, P k → R k) (hQ : ∀ k, k < a.heap.size → Q k → R k) : Fr a c R :=
  ⟨g.os.trans h.os, g.tape.trans h.tape, g.output.trans h.output, Nat.le_trans h.size g.size, fun k hk hr => (g.block k (Nat.lt_of_lt_of_le hk h.size) fun q => hr (hQ k hk q)).trans (h.block k hk fun p => hr (hP k p))⟩
theorem Fr.refl (w : World) (P : Nat → Prop) : Fr w w P := Fr.of (b0 w) P
theorem Fr.obj {w w' : World} {P : Nat → Prop} (h : Fr w w' P) {k : Nat} {o : Obj} (e : w.heap[k]? = some o) (hp : ¬ P k) : w'.heap[k]? = some o := (h.block k (Array.getElem?_eq_some_iff.1 e).1 hp).trans e
theorem Fr.cell {w w' : World} {P : Nat → Prop} (h : Fr w w' P) {p : Addr} {v : Value} (c : w.cell? p = some v) (hp : ¬ P p.block) : w'.cell? p = some v := by
  unfold World.cell? at *
  rw [h.block p.block (g_lt (w := w) (p := p) (v := v) (by unfold World.cell?; exact c)) hp]
  exact c
theorem Fr.box {w w' : World} {P : Nat → Prop} (h : Fr w w' P) {k : Nat} {t : TypeId} {cs : Array Value} (c : BoxS w k t cs) (hp : ¬ P k) : BoxS w' k t cs := h.obj c hp
theorem ExAt.fr {w w' : World} {P : Nat → Prop} {p : Addr} {e : Ex} {A : Option Addr} {c : Nat} (h : ExAt w p e A c) (g : Fr w w' P) (hp : ¬ P p.block) : ExAt w' p e A c := by
  obtain ⟨h0, h1, h2, h3, h4, h5⟩ := h
  exact ⟨g.cell h0 hp, g.cell h1 hp, g.cell h2 hp, g.cell h3 hp, g.cell h4 hp, g.cell h5 hp⟩
theorem TrN.fr {w w' : World} {P N : Nat → Prop} {A : Option Addr} {c : Nat} {l : List Ex} (h : TrN w N A c l) (g : Fr w w' P) (hN : ∀ k, k < w.heap.size → N k → ¬ P k) : TrN w' N A c l := by
  induction h with
  | mk As cs le mx ok row sub ih =>
    exact .mk As cs le mx ok (fun j hj => by
      obtain ⟨ad, e, n, h⟩ := row j hj
      have hb := g_lt h.1
      rw [add_block] at hb
      exact ⟨ad, e, n, h.fr g (by rw [add_block]; exact hN _ hb n)⟩) ih
theorem TrR.toN {w : World} {A : Option Addr} {c : Nat} {l : List Ex} (h : TrR w A c l) {N : Nat → Prop} (hN : ∀ k, k < w.heap.size → N k) : TrN w N A c l := by
  induction h with
  | mk As cs le mx ok row sub ih =>
    exact .mk As cs le mx ok (fun j hj => by
      obtain ⟨ad, e, h⟩ := row j hj
      have hb := g_lt h.1
      rw [add_block] at hb
      exact ⟨ad, e, hN _ hb, h⟩) ih
theorem TrN.at {w : World} {N : Nat → Prop} {A : Option Addr} {c : Nat} {l : List Ex} (h : TrN w N A c l) {j : Nat} (hj : j < l.length) : ∃ ad, A = some ad ∧ N ad.block ∧ ∃ B n d, (l.getD j e0).l.length = n ∧ OKe (l.getD j e0) ∧ TrN w N B d (l.getD j e0).l ∧
    w.cell? (ad.add (j * 6)) = some (.int .u8 ((l.getD j e0).k : Int)) ∧ w.cell? ⟨(ad.add (j * 6)).block, (ad.add (j * 6)).off + 1, none⟩ = some (.int .u8 ((l.getD j e0).o : Int)) ∧ w.cell? ⟨(ad.add (j * 6)).block, (ad.add (j * 6)).off + 2, none⟩ = some (.int .u8 ((l.getD j e0).t : Int)) ∧ w.cell? ⟨(ad.add (j * 6)).block, (ad.add (j * 6)).off + 3, none⟩ = some (.int .i32 (l.getD j e0).n)
      ∧ w.cell? ⟨(ad.add (j * 6)).block, (ad.add (j * 6)).off + 4, none⟩ = some (.string (strOf (l.getD j e0).s)) ∧ w.cell? ⟨(ad.add (j * 6)).block, (ad.add (j * 6)).off + 5, none⟩ = some (.slice B n d) := by
  cases h with
  | mk As cs le mx ok row sub =>
    obtain ⟨ad, e, n, h⟩ := row j hj
    exact ⟨ad, e, n, As j, _, cs j, rfl, ok j hj, sub j hj, h⟩
/-- The list without its first tree. -/
theorem TrN.tail {w : World} {N : Nat → Prop} {ad : Addr} {c : Nat} {x : Ex} {l : List Ex} (h : TrN w N (some ad) c (x :: l)) : TrN w N (some (ad.add 6)) (c - 1) l := by
  cases h with
  | mk As cs le mx ok row sub =>
    have hl : (x :: l).length = l.length + 1 := rfl
    rw [hl] at le
    refine .mk (fun j => As (j + 1)) (fun j => cs (j + 1)) (by omega) (by omega) (fun j hj => ok (j + 1) (by rw [hl]; omega)) (fun j hj => ?_) (fun j hj => sub (j + 1) (by rw [hl]; omega))
    obtain ⟨ad', e, n, h⟩ := row (j + 1) (by rw [hl]; omega)
    cases e
    refine ⟨_, rfl, by rw [add_block]; exact n, ?_⟩
    rw [add_add_, show 6 + j * 6 = (j + 1) * 6 by omega]
    exact h
theorem TrN.empty {w : World} {N : Nat → Prop} (A : Option Addr) {c : Nat} (hc : c ≤ maxLen) : TrN w N A c [] := .mk (fun _ => none) (fun _ => 0) (Nat.zero_le _) hc (fun j h => absurd h (by simp)) (fun j h => absurd h (by simp)) (fun j h => absurd h (by simp))
theorem TrN.le {w : World} {N : Nat → Prop} {A : Option Addr} {c : Nat} {l : List Ex} (h : TrN w N A c l) : l.length ≤ c := by cases h; assumption
theorem TrN.mx {w : World} {N : Nat → Prop} {A : Option Addr} {c : Nat} {l : List Ex} (h : TrN w N A c l) : c ≤ maxLen := by cases h; assumption
/-! ### The stack -/
structure Lt where
  l : List Ex
  A : Option Addr
  c : Nat
def t0 : Lt := ⟨[], none, 0⟩
def ltV (x : Lt) : Value := .slice x.A x.l.length x.c
def ltL (S : List Lt) : List (List Ex) := S.map Lt.l
def OwnW (w : World) (B : Nat) (A : Option Addr) (n c : Nat) (S : List Lt) : Prop := w.ownsRow B 25 1 (.slice A n c) n (S.map ltV)
theorem OwnW.len {w : World} {B n c : Nat} {A : Option Addr} {S : List Lt} (h : OwnW w B A n c S) : S.length = n := by
  have := h.1
  rw [List.length_map] at this
  omega
theorem OwnW.fr {w w' : World} {P : Nat → Prop} {B n c : Nat} {A : Option Addr} {S : List Lt} (h : OwnW w B A n c S) (g : Fr w w' P) (hA : ∀ ad, A = some ad → ¬ P ad.block) : OwnW w' B A n c S := by
  refine ⟨h.1, ?_⟩
  rcases h.2 with h2 | ⟨q, cap, cur, hv, hB, hh, rest⟩
  · exact .inl h2
  · refine .inr ⟨q, cap, cur, hv, hB, g.obj hh ?_, rest⟩
    injection hv with h1
    exact hA _ h1
/-- The stack without its last list. -/
theorem OwnW.pop {w : World} {B n c : Nat} {A : Option Addr} {S : List Lt} {x : Lt} (h : OwnW w B A (n + 1) c (S ++ [x])) : OwnW w B A n c S := by
  have hl := h.len
  rw [List.length_append] at hl
  have hl : S.length = n := by simpa using hl
  refine ⟨by rw [List.length_map]; omega, ?_⟩
  rcases h.2 with ⟨_, h2⟩ | ⟨q, cap, cur, hv, hB, hh, hn, hm, hs, hx⟩
  · omega
  · injection hv with h1 h2 h3
    subst h1 h3
    refine .inr ⟨q, c, cur, rfl, hB, hh, by omega, hm, hs, ?_⟩
    rw [Nat.mul_one] at hx ⊢
    have e1 : List.take n (S.map ltV ++ [x].map ltV) = S.map ltV := by
      rw [List.take_append_of_le_length (by rw [List.length_map]; omega)]
      exact List.take_of_length_le (by rw [List.length_map]; omega)
    have h5 := congrArg (List.take n) hx
    rw [List.take_take, List.map_append, show min n (n + 1) = n by omega] at h5
    exact h5.trans e1
theorem OwnW.lastA {w : World} {B n c : Nat} {A : Option Addr} {S : List Lt} {x : Lt} (h : OwnW w B A (n + 1) c (S ++ [x])) : ∃ ad, A = some ad ∧ w.cell? (ad.add n) = some (.slice x.A x.l.length x.c) := by
  have hl := h.len
  rw [List.length_append] at hl
  have hl : S.length = n := by simpa using hl
  rcases h.2 with ⟨_, h2⟩ | ⟨q, cap, cur, hv, hB, hh, hn, hm, hs, hx⟩
  · omega
  · injection hv with h1
    subst h1
    refine ⟨_, rfl, World.ownsRow.cells h rfl n _ ?_⟩
    rw [List.map_append, List.getElem?_append_right (by rw [List.length_map]; omega), List.length_map, hl, Nat.sub_self]
    rfl
theorem lt_info : (Tryz.prog.info? 25).map (fun i => (i.zero, i.size, i.bytes)) = some (some (.slice none 0 0), 1, 24) := by kernel_rfl
def Pb (b : Nat) (A : Option Addr) (k : Nat) : Prop := k = b ∨ ∃ ad, A = some ad ∧ ad.block = k
/-- Where a row lies: where it lay, or in new memory. -/
def Gr (w : World) (A A' : Option Addr) : Prop := ∀ ad', A' = some ad' → (∃ ad, A = some ad ∧ ad.block = ad'.block) ∨ w.heap.size ≤ ad'.block
theorem Gr.refl (w : World) (A : Option Addr) : Gr w A A := fun ad h => .inl ⟨ad, h, rfl⟩
theorem Gr.trans {w w1 : World} {A A1 A2 : Option Addr} (h : Gr w A A1) (g : Gr w1 A1 A2) (hs : w.heap.size ≤ w1.heap.size) : Gr w A A2 := fun ad e => by
  rcases g ad e with ⟨ad1, e1, h1⟩ | h1
  · rcases h ad1 e1 with ⟨ad0, e0, h0⟩ | h0
    · exact .inl ⟨ad0, e0, h0.trans h1⟩
    · exact .inr (by omega)
  · exact .inr (by omega)
theorem fr_pb {a b c : World} {q : Nat} {A A1 : Option Addr} (h : Fr a b (Pb q A)) (k : Gr a A A1) (g : Fr b c (Pb q A1)) : Fr a c (Pb q A) :=
  h.trans g (fun _ h => h) fun j hj p => p.elim .inl fun ⟨ad, e, h⟩ => (k ad e).elim (fun ⟨ad0, e0, h0⟩ => .inr ⟨ad0, e0, h0.trans h⟩) fun h0 => by omega
structure Wk (w : World) (B b : Nat) (N : Nat → Prop) (A : Option Addr) (n c : Nat) (S : List Lt) : Prop where
  box : BoxS w b 131 #[.slice A n c]
  own : OwnW w B A n c S
  ne : ∀ ad, A = some ad → ad.block ≠ b ∧ ¬ N ad.block
  nb : ¬ N b
  hB : B ≤ b
  hN : ∀ k, N k → k < w.heap.size
  sub : ∀ x ∈ S, TrN w N x.A x.c x.l
  nn : ∀ x ∈ S, x.l ≠ []
theorem Wk.fr {w w' : World} {P N : Nat → Prop} {B b n c : Nat} {A : Option Addr} {S : List Lt} (h : Wk w B b N A n c S) (g : Fr w w' P) (h1 : ¬ P b) (h2 : ∀ ad, A = some ad → ¬ P ad.block) (h3 : ∀ k, k < w.heap.size → N k → ¬ P k) : Wk w' B b N A n c S :=
  ⟨g.box h.box h1, h.own.fr g h2, h.ne, h.nb, h.hB, fun k hk => Nat.lt_of_lt_of_le (h.hN k hk) g.size, fun x hx => (h.sub x hx).fr g h3, h.nn⟩
theorem Wk.keep {w w' : World} {N : Nat → Prop} {B b n c : Nat} {A : Option Addr} {S : List Lt} (h : Wk w B b N A n c S) (g : Below w.heap.size w w') : Wk w' B b N A n c S :=
  h.fr (Fr.of g (fun _ => False)) (fun h => h) (fun _ _ h => h) (fun _ _ _ h => h)
theorem Wk.wide {w : World} {N M : Nat → Prop} {B b n c : Nat} {A : Option Addr} {S : List Lt} (h : Wk w B b N A n c S) (k : ∀ j, N j → M j) (h1 : ¬ M b) (h2 : ∀ ad, A = some ad → ¬ M ad.block) (h3 : ∀ k, M k → k < w.heap.size) : Wk w B b M A n c S :=
  ⟨h.box, h.own, fun ad e => ⟨(h.ne ad e).1, h2 ad e⟩, h1, h.hB, h3, fun x hx => (h.sub x hx).mono fun j _ n => k j n, h.nn⟩
theorem Wk.pb {w : World} {N : Nat → Prop} {B b n c : Nat} {A : Option Addr} {S : List Lt} (h : Wk w B b N A n c S) : ∀ k, Pb b A k → B ≤ k := by
  rintro k (rfl | ⟨ad, e, rfl⟩)
  · exact h.hB
  · subst e
    exact (World.ownsRow.lt h.own ad.block rfl).1
theorem Wk.len {w : World} {N : Nat → Prop} {B b n c : Nat} {A : Option Addr} {S : List Lt} (h : Wk w B b N A n c S) : S.length = n := h.own.len
theorem len_tot {S : List Lt} (h : ∀ x ∈ S, x.l ≠ []) : S.length ≤ totS (ltL S) := by
  induction S with
  | nil => exact Nat.zero_le _
  | cons x S ih =>
    have h1 := ih fun y hy => h y (List.mem_cons_of_mem _ hy)
    have h2 : 1 ≤ szL x.l := by
      cases hx : x.l with
      | nil => exact absurd hx (h x (List.mem_cons_self ..))
      | cons y r => rw [szL]; have := szE_pos y; omega
    show S.length + 1 ≤ szL x.l + totS (ltL S)
    omega
/-- What a step of the stack leaves. -/
def WkR (w w' : World) (B b : Nat) (N : Nat → Prop) (A : Option Addr) (L : List (List Ex)) : Prop := ∃ A' n' c' S', Wk w' B b N A' n' c' S' ∧ ltL S' = L ∧ Fr w w' (Pb b A) ∧ Gr w A A'
/-- The walk's box with another slice. -/
theorem Wk.set {w : World} {N : Nat → Prop} {B b m d : Nat} {v : Value} {A2 : Option Addr} {T : List Lt} (hb : BoxS w b 131 #[v]) (nb : ¬ N b) (hB : B ≤ b) (hN : ∀ k, N k → k < w.heap.size) (o : OwnW w B A2 m d T) (h1 : ∀ ad, A2 = some ad → ad.block ≠ b ∧ ¬ N ad.block) (h2 : ∀ x ∈ T, TrN w N x.A x.c x.l) (h3 : ∀ x ∈ T, x.l ≠ []) :
    Wk (w.setCell ⟨b, 0, none⟩ (.slice A2 m d)) B b N A2 m d T := by
  have g : Fr w (w.setCell ⟨b, 0, none⟩ (.slice A2 m d)) (fun k => k = b) :=
    ⟨rfl, rfl, rfl, by show _ ≤ (w.heap.modify b _).size; rw [Array.size_modify]; exact Nat.le_refl _, fun k hk hr => Below.heap_setCell w ⟨b, 0, none⟩ _ k (fun e => hr (by rw [show k = b from e]))⟩
  refine ⟨?_, o.fr g (fun ad e => (h1 ad e).1), h1, nb, hB, fun k hk => Nat.lt_of_lt_of_le (hN k hk) g.size, fun x hx => (h2 x hx).fr g fun k _ n e => nb (by rw [← show k = b from e]; exact n), h3⟩
  obtain ⟨hlt, hk⟩ := Array.getElem?_eq_some_iff.1 (show w.heap[b]? = _ from hb)
  show (w.heap.modify b _)[b]? = _
  rw [Array.getElem?_eq_getElem (by rw [Array.size_modify]; exact hlt), Array.getElem_modify_self, hk]
  rfl
theorem fr_set (w : World) (b j : Nat) (v : Value) (A : Option Addr) : Fr w (w.setCell ⟨b, j, none⟩ v) (Pb b A) :=
  ⟨rfl, rfl, rfl, by show _ ≤ (w.heap.modify b _).size; rw [Array.size_modify]; exact Nat.le_refl _, fun k hk hr => Below.heap_setCell w ⟨b, j, none⟩ v k (fun e => hr (.inl e))⟩
set_option maxRecDepth 10000 in
/-- One list appended to the stack's row: what the builtin does. -/
theorem run_lt {w : World} {base n c : Nat} {A : Option Addr} {S : List Lt} {ty : TypeId} (hown : OwnW w base A n c S) (x : Lt) (ad : Addr) (hx : w.cell? ad = some (.slice x.A x.l.length x.c)) (h63 : n + 1 ≤ 2000000) (hbase : base ≤ w.heap.size) :
    ∃ A2 c2 w', (Builtin.append_ #[129, 129] ty #[.slice A n c, .slice (some ad) 1 1]).run Tryz.prog w = .ok (.slice A2 (n + 1) c2) w' ∧ OwnW w' base A2 (n + 1) c2 (S ++ [x]) ∧ w.grownBy w' (Value.slice A n c).ownBlock ∧ Gr w A A2 := by
  obtain ⟨i0, hi0, hz0, hz1, hz2⟩ := info_parts lt_info
  obtain ⟨g, cap, w', hr, h1, h2, h3, _⟩ := run_append_lies (P := Tryz.prog) w 129 ty base 25 i0 (.slice none 0 0) 1 24 Tryz.underlying129 hi0 hz0 hz1 hz2 rfl (by omega) (.slice A n c) n (S.map ltV) hown ad 1 1 [ltV x] rfl (fun j u hj => by
    match j, hj with
    | 0, hj => injection hj with hj; subst hj; unfold Addr.add; exact hx
    | j + 1, hj => simp at hj) (fun u hu => by simp at hu; subst hu; rfl) (by omega)
    (by unfold maxLen; omega) (by omega) hbase w.heap.size rfl
  refine ⟨_, _, w', hr, by unfold OwnW; rw [List.map_append]; exact h1, h2, fun ad' e => ?_⟩
  injection e with e
  subst e
  rcases h3 with h3 | h3
  · cases A with
    | none => simp [Value.ownBlock] at h3
    | some a => exact .inl ⟨a, rfl, by simpa [Value.ownBlock] using h3⟩
  · exact .inr (by show w.heap.size ≤ g; omega)
set_option maxRecDepth 10000 in
theorem app_lt {w : World} {ops : Array Oper} {rest : List Oper} {o : Oper} {a : Act} {Q : Exit → Act → World → Prop} (hgd : o.guard = none) (s y : Operand)
    (ho : o.op = .call { callee := .builtin .append, args := #[s, y], argTypes := #[129, 129] }) (base n c : Nat) (A : Option Addr) (S : List Lt) (x : Lt) (ad : Addr) (hs : a.eval s = .slice A n c) (hx : a.eval y = .slice (some ad) 1 1)
    (hown : OwnW w base A n c S) (hc : w.cell? ad = some (.slice x.A x.l.length x.c)) (h63 : n + 1 ≤ 2000000) (hbase : base ≤ w.heap.size)
    (h : ∀ A2 c2 w', OwnW w' base A2 (n + 1) c2 (S ++ [x]) → w.grownBy w' (Value.slice A n c).ownBlock → Gr w A A2 → wpList Tryz.prog ops Q rest (a.put o.dst (.slice A2 (n + 1) c2)) w') : wpList Tryz.prog ops Q (o :: rest) a w := by
  refine wpList_plain hgd fun K hK => ?_
  unfold Oper.wp execOp
  obtain ⟨A2, c2, w', hr, h1, h2, h3⟩ := run_lt (ty := o.type) hown x ad hc h63 hbase
  simp only [ho, resolve, invoke, builtin, Sem.run_bind, Sem.run_pure, Result.andThen_ok, List.map_toArray, List.map_cons, List.map_nil, hs, hx, hr]
  exact hK _ _ (h A2 c2 w' h1 h2 h3)
set_option maxRecDepth 10000 in
theorem step_lt {X : World} {ops : Array Oper} {o : Oper} {a : Act} {K : Act → World → Prop} {Q : Exit → Act → World → Prop} {E : Prop} (hgd : o.guard = none) (s y : Operand)
    (ho : o.op = .call { callee := .builtin .append, args := #[s, y], argTypes := #[129, 129] }) (base n c : Nat) (A : Option Addr) (S : List Lt) (x : Lt) (ad : Addr) (hs : a.eval s = .slice A n c) (hx : a.eval y = .slice (some ad) 1 1)
    (hown : OwnW X base A n c S) (hc : X.cell? ad = some (.slice x.A x.l.length x.c)) (h63 : n + 1 ≤ 2000000) (hbase : base ≤ X.heap.size)
    (h : ∀ A2 c2 w', OwnW w' base A2 (n + 1) c2 (S ++ [x]) → X.grownBy w' (Value.slice A n c).ownBlock → Gr X A A2 → K (a.put o.dst (.slice A2 (n + 1) c2)) w') :
    if Region.wanted o (yielded ops a.tmps) = true then Oper.wp Tryz.prog o a X K Q else E := by
  have hw : Region.wanted o (yielded ops a.tmps) = true := by simp [Region.wanted, hgd]
  rw [if_pos hw]
  unfold Oper.wp execOp
  obtain ⟨A2, c2, w', hr, h1, h2, h3⟩ := run_lt (ty := o.type) hown x ad hc h63 hbase
  simp only [ho, resolve, invoke, builtin, Sem.run_bind, Sem.run_pure, Result.andThen_ok, List.map_toArray, List.map_cons, List.map_nil, hs, hx, hr]
  exact h A2 c2 w' h1 h2 h3
theorem ob_some {A : Option Addr} {n c k : Nat} (h : (Value.slice A n c).ownBlock = some k) : ∃ ad, A = some ad ∧ ad.block = k := by
  cases A with
  | none => simp [Value.ownBlock] at h
  | some ad => exact ⟨ad, rfl, by simpa [Value.ownBlock] using h⟩
/-- A list pushed: X is the world ahead of the append, Y behind it. -/
theorem Wk.push {w X Y : World} {N : Nat → Prop} {B b n c c2 : Nat} {A A2 : Option Addr} {S : List Lt} (h : Wk w B b N A n c S) (x : Lt) (R : TrN w N x.A x.c x.l) (hx : x.l ≠ []) (bX : Below w.heap.size w X) (o : OwnW Y B A2 (n + 1) c2 (S ++ [x])) (g : X.grownBy Y (Value.slice A n c).ownBlock) (gr : Gr X A A2) :
    WkR w (Y.setCell ⟨b, 0, none⟩ (.slice A2 (n + 1) c2)) B b N A (ltL S ++ [x.l]) := by
  have hX := h.keep bX
  have hs := bX.size
  have f : Fr X Y (fun k => ∃ ad, A = some ad ∧ ad.block = k) := Fr.ofG g fun k e => ob_some e
  have hbX := hX.box.lt
  have hG : Gr w A A2 := fun ad e => (gr ad e).imp id fun q => Nat.le_trans hs q
  refine ⟨A2, n + 1, c2, S ++ [x], Wk.set (v := .slice A n c) (f.box hX.box fun ⟨ad, e, q⟩ => (h.ne ad e).1 q) h.nb h.hB (fun k hk => Nat.lt_of_lt_of_le (hX.hN k hk) f.size) o (fun ad e => ?_) (fun y hy => ?_) (fun y hy => ?_), by simp [ltL], ?_, hG⟩
  · rcases hG ad e with ⟨a0, e0, q⟩ | q
    · rw [← q]; exact h.ne a0 e0
    · have h1 := h.box.lt
      exact ⟨by omega, fun hn => by have := h.hN _ hn; omega⟩
  · have hN : ∀ k, k < X.heap.size → N k → ¬ ∃ ad, A = some ad ∧ ad.block = k := fun k _ hk ⟨ad, e, q⟩ => (h.ne ad e).2 (by rw [q]; exact hk)
    rcases List.mem_append.1 hy with hy | hy
    · exact (hX.sub y hy).fr f hN
    · rw [List.mem_singleton.1 hy]; exact (R.keep bX).fr f hN
  · rcases List.mem_append.1 hy with hy | hy
    · exact h.nn y hy
    · rw [List.mem_singleton.1 hy]; exact hx
  · exact ((Fr.of bX (Pb b A)).trans f (fun _ h => h) fun k _ p => .inr p).trans (fr_set Y b 0 _ A) (fun _ h => h) fun k _ p => p
/-- The last list taken off. -/
theorem Wk.pop {w : World} {N : Nat → Prop} {B b n c : Nat} {A : Option Addr} {S : List Lt} {x : Lt} (h : Wk w B b N A (n + 1) c (S ++ [x])) : Wk (w.setCell ⟨b, 0, none⟩ (.slice A n c)) B b N A n c S :=
  Wk.set h.box h.nb h.hB h.hN h.own.pop h.ne (fun y hy => h.sub y (List.mem_append_left _ hy)) (fun y hy => h.nn y (List.mem_append_left _ hy))
end Go.Proofs.YtimbiobonigdmaaGreatDoor
/- Contracts of the integer functions of package word and of its reference: what each returns, for all words. -/
set_option linter.unusedVariables false
set_option linter.unusedSimpArgs false
namespace Go.Proofs.YtimbiobonigdmaaGreatDoor.W1
open Go Go.RowKit

/-- The number does not fit into a word. -/
def overB (x : Int) : Bool := !(decide (-2147483648 ≤ x) && decide (x < 2147483648))

theorem ret_ib {k : IntKind} {a b : Int} {p q : Bool} (h : a = b) (h' : p = q) : Ending.returned (.tuple #[.int k a, .bool p]) = .returned (.tuple #[.int k b, .bool q]) := by rw [h, h']
theorem ret_i {k : IntKind} {a b : Int} (h : a = b) : Ending.returned (.int k a) = .returned (.int k b) := by rw [h]
theorem ret_b {p q : Bool} (h : p = q) : Ending.returned (.bool p) = .returned (.bool q) := by rw [h]

theorem red64_any (x : Int) (w : World) : Calls Tryz.prog 89 #[.int .i64 x] w fun e w' => e = .returned (.int .i32 (wrap32 x)) ∧ w = w' := by
  go_enter Tryz.func89, Tryz.ntmps89
  go_wp2
  go_ret
  exact ⟨rfl, rfl⟩
theorem redu_any (x : Int) (w : World) : Calls Tryz.prog 87 #[.int .u32 x] w fun e w' => e = .returned (.int .i32 (wrap32 x)) ∧ w = w' := by
  go_enter Tryz.func87, Tryz.ntmps87
  go_wp2
  go_ret
  exact ⟨rfl, rfl⟩
theorem wrap32_over (x : Int) : (wrap64 (wrap32 x) != x) = overB x := by
  unfold overB wrap64 wrap32
  by_cases h : -2147483648 ≤ x <;> by_cases h' : x < 2147483648 <;> simp [h, h'] <;> omega
theorem redOver_any (x : Int) (w : World) : Calls Tryz.prog 88 #[.int .i64 x] w fun e w' => e = .returned (.tuple #[.int .i32 (wrap32 x), .bool (overB x)]) ∧ w = w' := by
  go_enter Tryz.func88, Tryz.ntmps88
  go_wp2_with (go_at_call 89; refine (red64_any _ _).mono ?_; rintro e w' ⟨rfl, rfl⟩)
  go_ret2
  exact ⟨ret_ib rfl (wrap32_over x), rfl⟩

/-- A word. -/
def isW (a : Int) : Prop := -2147483648 ≤ a ∧ a ≤ 2147483647
theorem isW_wrap32 (x : Int) : isW (wrap32 x) := by unfold isW wrap32; omega
theorem isW_of_wf {a : Int} (h : (Lit.int .i32 a).wf = true) : isW a := by
  simp only [Lit.wf, IntKind.min, IntKind.max, IntKind.signed, IntKind.bits, Bool.and_eq_true, decide_eq_true_eq, if_true] at h
  exact ⟨by omega, by omega⟩

theorem Add_any (a b : Int) (ha : isW a) (hb : isW b) (w : World) : Calls Tryz.prog 63 #[.int .i32 a, .int .i32 b] w fun e w' => e = .returned (.tuple #[.int .i32 (wrap32 (a + b)), .bool (overB (a + b))]) ∧ w = w' := by
  unfold isW at ha hb
  obtain ⟨a0, a1⟩ := ha
  obtain ⟨b0, b1⟩ := hb
  go_enter Tryz.func63, Tryz.ntmps63
  go_wp2_with (go_at_call 88; refine (redOver_any _ _).mono ?_; rintro e w' ⟨rfl, rfl⟩)
  go_ret2
  exact ⟨rfl, rfl⟩
theorem Sub_any (a b : Int) (ha : isW a) (hb : isW b) (w : World) : Calls Tryz.prog 64 #[.int .i32 a, .int .i32 b] w fun e w' => e = .returned (.tuple #[.int .i32 (wrap32 (a - b)), .bool (overB (a - b))]) ∧ w = w' := by
  unfold isW at ha hb
  obtain ⟨a0, a1⟩ := ha
  obtain ⟨b0, b1⟩ := hb
  go_enter Tryz.func64, Tryz.ntmps64
  go_wp2_with (go_at_call 88; refine (redOver_any _ _).mono ?_; rintro e w' ⟨rfl, rfl⟩)
  go_ret2
  exact ⟨rfl, rfl⟩
theorem mul_bd {a b : Int} (ha : isW a) (hb : isW b) : -4611686018427387904 ≤ a * b ∧ a * b ≤ 4611686018427387904 := by
  unfold isW at ha hb
  have h1 : a.natAbs ≤ 2147483648 := by omega
  have h2 : b.natAbs ≤ 2147483648 := by omega
  have h3 : (a * b).natAbs ≤ 2147483648 * 2147483648 := by rw [Int.natAbs_mul]; exact Nat.mul_le_mul h1 h2
  omega
theorem Mul_any (a b : Int) (ha : isW a) (hb : isW b) (w : World) : Calls Tryz.prog 65 #[.int .i32 a, .int .i32 b] w fun e w' => e = .returned (.tuple #[.int .i32 (wrap32 (a * b)), .bool (overB (a * b))]) ∧ w = w' := by
  have hm := mul_bd ha hb
  unfold isW at ha hb
  obtain ⟨a0, a1⟩ := ha
  obtain ⟨b0, b1⟩ := hb
  obtain ⟨m0, m1⟩ := hm
  go_enter Tryz.func65, Tryz.ntmps65
  go_wp2_with (go_at_call 88; refine (redOver_any _ _).mono ?_; rintro e w' ⟨rfl, rfl⟩)
  go_ret2
  exact ⟨rfl, rfl⟩
theorem Sum_any (a b : Int) (ha : isW a) (hb : isW b) (w : World) : Calls Tryz.prog 46 #[.int .i32 a, .int .i32 b] w fun e w' => e = .returned (.int .i32 (wrap32 (a + b))) ∧ w = w' := by
  go_enter Tryz.func46, Tryz.ntmps46
  go_wp2_with (go_at_call 63; refine (Add_any _ _ ha hb _).mono ?_; rintro e w' ⟨rfl, rfl⟩)
  go_ret
  exact ⟨rfl, rfl⟩
theorem Diff_any (a b : Int) (ha : isW a) (hb : isW b) (w : World) : Calls Tryz.prog 47 #[.int .i32 a, .int .i32 b] w fun e w' => e = .returned (.int .i32 (wrap32 (a - b))) ∧ w = w' := by
  go_enter Tryz.func47, Tryz.ntmps47
  go_wp2_with (go_at_call 64; refine (Sub_any _ _ ha hb _).mono ?_; rintro e w' ⟨rfl, rfl⟩)
  go_ret
  exact ⟨rfl, rfl⟩
theorem Prod_any (a b : Int) (ha : isW a) (hb : isW b) (w : World) : Calls Tryz.prog 48 #[.int .i32 a, .int .i32 b] w fun e w' => e = .returned (.int .i32 (wrap32 (a * b))) ∧ w = w' := by
  go_enter Tryz.func48, Tryz.ntmps48
  go_wp2_with (go_at_call 65; refine (Mul_any _ _ ha hb _).mono ?_; rintro e w' ⟨rfl, rfl⟩)
  go_ret
  exact ⟨rfl, rfl⟩
/-- After: the difference is above 0. -/
def aftB (a b : Int) : Bool := decide (0 < wrap32 (a - b))
theorem After_any (a b : Int) (ha : isW a) (hb : isW b) (w : World) : Calls Tryz.prog 60 #[.int .i32 a, .int .i32 b] w fun e w' => e = .returned (.bool (aftB a b)) ∧ w = w' := by
  go_enter Tryz.func60, Tryz.ntmps60
  go_wp2_with (go_at_call 47; refine (Diff_any _ _ ha hb _).mono ?_; rintro e w' ⟨rfl, rfl⟩)
  go_ret
  exact ⟨ret_b rfl, rfl⟩
/-- The quotient, the remainder; whether there is none. -/
def divB (a b : Int) : Bool := (b == 0) || ((a == -2147483648) && (b == -1))
def divR (a b : Int) : Int := if divB a b = true then 0 else a.tdiv b
theorem tdiv_bd {a b : Int} (ha : isW a) (hb : ¬ b = 0) (h : ¬ (a = -2147483648 ∧ b = -1)) : isW (a.tdiv b) := by
  unfold isW at *
  obtain ⟨a0, a1⟩ := ha
  have hn : (a.tdiv b).natAbs = a.natAbs / b.natAbs := Int.natAbs_tdiv ..
  by_cases hb1 : b.natAbs = 1
  · rw [hb1, Nat.div_one] at hn
    rcases (show b = 1 ∨ b = -1 by omega) with rfl | rfl
    · rw [Int.tdiv_one]; exact ⟨a0, a1⟩
    · have : a ≠ -2147483648 := fun e => h ⟨e, rfl⟩
      omega
  · have h2 : a.natAbs / b.natAbs ≤ a.natAbs / 2 := Nat.div_le_div_left (by omega) (by omega)
    omega
theorem wrap32_in {x : Int} (h : isW x) : wrap32 x = x := by unfold isW at h; unfold wrap32; omega
theorem Div_any (a b : Int) (ha : isW a) (w : World) : Calls Tryz.prog 66 #[.int .i32 a, .int .i32 b] w fun e w' => e = .returned (.tuple #[.int .i32 (divR a b), .bool (divB a b)]) ∧ w = w' := by
  by_cases hb : b = 0
  · subst hb
    go_enter Tryz.func66, Tryz.ntmps66
    go_wp2
    go_ret2
    exact ⟨ret_ib rfl rfl, rfl⟩
  · have h1 : (b == 0) = false := by simpa using hb
    cases h2 : (a == -2147483648) <;> cases h3 : (b == -1)
    case true.true =>
      go_enter Tryz.func66, Tryz.ntmps66
      go_wp2
      go_ret2
      exact ⟨ret_ib (by unfold divR divB; rw [h2, h3]; simp) (by unfold divB; rw [h2, h3]; simp), rfl⟩
    all_goals
      have hw := tdiv_bd ha hb (by rintro ⟨rfl, rfl⟩; first | (exact absurd h2 (by decide)) | (exact absurd h3 (by decide)))
      have hd : divB a b = false := by unfold divB; rw [h1, h2, h3]; rfl
      go_enter Tryz.func66, Tryz.ntmps66
      go_wp2
      go_ret2
      exact ⟨ret_ib (by unfold divR; rw [wrap32_in hw, hd]; simp) hd.symm, rfl⟩
def remR (a b : Int) : Int := if b == 0 then 0 else a.tmod b
theorem tmod_bd {a b : Int} (ha : isW a) : isW (a.tmod b) := by
  unfold isW at *
  have hn : (a.tmod b).natAbs = a.natAbs % b.natAbs := Int.natAbs_tmod ..
  have hm : a.natAbs % b.natAbs ≤ a.natAbs := Nat.mod_le ..
  obtain ⟨a0, a1⟩ := ha
  rcases Int.le_total 0 a with h | h
  · have := Int.tmod_nonneg b h
    omega
  · have := Int.tmod_nonneg (a := -a) b (by omega)
    rw [Int.neg_tmod] at this
    omega
theorem Rem_any (a b : Int) (ha : isW a) (hb' : isW b) (w : World) : Calls Tryz.prog 67 #[.int .i32 a, .int .i32 b] w fun e w' => e = .returned (.tuple #[.int .i32 (remR a b), .bool (b == 0)]) ∧ w = w' := by
  by_cases hb : b = 0
  · subst hb
    go_enter Tryz.func67, Tryz.ntmps67
    go_wp2
    go_ret2
    exact ⟨ret_ib rfl rfl, rfl⟩
  · have h1 : (b == 0) = false := by simpa using hb
    have hw := tmod_bd (b := b) ha
    unfold isW at ha hb'
    go_enter Tryz.func67, Tryz.ntmps67
    go_wp2_with (go_at_call 89; refine (red64_any _ _).mono ?_; rintro e w' ⟨rfl, rfl⟩)
    go_ret2
    exact ⟨ret_ib (by unfold remR; rw [wrap32_in hw, h1]; simp) h1.symm, rfl⟩
/-- The number of places that counts. -/
def plc (n : Int) : Nat := min (n % 4294967296).toNat 32
def shlR (a n : Int) : Int := wrap32 (a * 2 ^ plc n)
def shrR (a n : Int) : Int := wrap32 ((a % 4294967296) / 2 ^ plc n)
theorem shl_form (a x : Int) : wrap32 (IntKind.u32.wrap (a % 4294967296 * x)) = wrap32 (a * x) := by
  rw [IntKind.wrap_u32, show a = a % 4294967296 + 4294967296 * (a / 4294967296) by omega]
  generalize a / 4294967296 = q
  generalize a % 4294967296 = r
  have h1 : (r + 4294967296 * q) % 4294967296 = r % 4294967296 := by omega
  rw [h1]
  have h2 : (r + 4294967296 * q) * x = r * x + 4294967296 * (q * x) := by rw [Int.add_mul, Int.mul_assoc]
  rw [h2]
  have h3 : (r % 4294967296 * x) % 4294967296 = (r * x) % 4294967296 := by rw [Int.mul_emod, Int.emod_emod_of_dvd _ (Int.dvd_refl _), ← Int.mul_emod]
  rw [h3]
  unfold wrap32
  omega
theorem Shl_any (a b : Int) (w : World) : Calls Tryz.prog 52 #[.int .i32 a, .int .i32 b] w fun e w' => e = .returned (.int .i32 (shlR a b)) ∧ w = w' := by
  have hp : 0 ≤ b % 4294967296 := by omega
  go_enter Tryz.func52, Tryz.ntmps52
  go_wp2_with (go_at_call 87; refine (redu_any _ _).mono ?_; rintro e w' ⟨rfl, rfl⟩)
  go_ret
  exact ⟨ret_i (shl_form a _), rfl⟩
theorem Shr_any (a b : Int) (w : World) : Calls Tryz.prog 53 #[.int .i32 a, .int .i32 b] w fun e w' => e = .returned (.int .i32 (shrR a b)) ∧ w = w' := by
  have hp : 0 ≤ b % 4294967296 := by omega
  go_enter Tryz.func53, Tryz.ntmps53
  go_wp2_with (go_at_call 87; refine (redu_any _ _).mono ?_; rintro e w' ⟨rfl, rfl⟩)
  go_ret
  exact ⟨ret_i rfl, rfl⟩
def xwR (a b : Int) : Int := if a % 4294967296 < b % 4294967296 then a else wrap32 (a - 2 * b)
def cwB (a b : Int) : Bool := decide (b ≤ a) || decide (a < wrap32 (0 - b))
end Go.Proofs.YtimbiobonigdmaaGreatDoor.W1
/- Contracts of the integer functions of the reference of layer 1: each returns what its twin of package word returns, for all words. -/
set_option linter.unusedVariables false
set_option linter.unusedSimpArgs false
namespace Go.Proofs.YtimbiobonigdmaaGreatDoor.W1
open Go Go.RowKit

theorem emod_of_tmod_neg {t : Int} (h : t.tmod 4294967296 < 0) : t.tmod 4294967296 + 4294967296 = t % 4294967296 := by
  have h1 : t = 4294967296 * t.tdiv 4294967296 + t.tmod 4294967296 := (Int.mul_tdiv_add_tmod t 4294967296).symm
  have h2 := Int.lt_tmod_of_pos t (show (0 : Int) < 4294967296 by omega)
  generalize t.tmod 4294967296 = r at *
  generalize t.tdiv 4294967296 = q at *
  omega
theorem emod_of_tmod_nonneg {t : Int} (h : ¬ t.tmod 4294967296 < 0) : t.tmod 4294967296 = t % 4294967296 := by
  have h1 : t = 4294967296 * t.tdiv 4294967296 + t.tmod 4294967296 := (Int.mul_tdiv_add_tmod t 4294967296).symm
  have h2 := Int.tmod_lt_of_pos t (show (0 : Int) < 4294967296 by omega)
  generalize t.tmod 4294967296 = r at *
  generalize t.tdiv 4294967296 = q at *
  omega
theorem tmod_rng (t : Int) : -4294967296 < t.tmod 4294967296 ∧ t.tmod 4294967296 < 4294967296 :=
  ⟨Int.lt_tmod_of_pos t (by omega), Int.tmod_lt_of_pos t (by omega)⟩
/-- A number far from the ends of an int64. -/
def isD (t : Int) : Prop := -4611686018427387904 ≤ t ∧ t ≤ 4611686018427387904
theorem Wrap_neg (t : Int) (ht : isD t) (_hs : t < 0) (w : World) : Calls Tryz.prog 79 #[.int .i64 t] w fun e w' => e = .returned (.int .i32 (wrap32 t)) ∧ w = w' := by
  obtain ⟨t0, t1⟩ := ht
  obtain ⟨r0, r1⟩ := tmod_rng t
  have hw : wrap32 (wrap32 (t % 4294967296)) = wrap32 t := by unfold wrap32; omega
  have hw' : wrap32 (wrap32 (t % 4294967296) - 4294967296) = wrap32 t := by unfold wrap32; omega
  by_cases hn : t.tmod 4294967296 < 0
  · have he := emod_of_tmod_neg hn
    by_cases hh : 2147483648 ≤ t.tmod 4294967296 + 4294967296
    all_goals
      have He := Lib.hid he
      have Hw := Lib.hid hw
      clear he hw hw'
      go_enter Tryz.func79, Tryz.ntmps79
      go_wp2
      go_ret
      exact ⟨ret_i (by rw [← Hw.out, ← He.out]; unfold wrap32; omega), rfl⟩
  · have he := emod_of_tmod_nonneg hn
    by_cases hh : 2147483648 ≤ t.tmod 4294967296
    all_goals
      have He := Lib.hid he
      have Hw := Lib.hid hw
      clear he hw hw'
      go_enter Tryz.func79, Tryz.ntmps79
      go_wp2
      go_ret
      exact ⟨ret_i (by rw [← Hw.out, ← He.out]; unfold wrap32; omega), rfl⟩
theorem Wrap_any (t : Int) (ht : isD t) (w : World) : Calls Tryz.prog 79 #[.int .i64 t] w fun e w' => e = .returned (.int .i32 (wrap32 t)) ∧ w = w' := by
  rcases Int.lt_or_le t 0 with hs | hs
  · exact Wrap_neg t ht hs w
  · obtain ⟨t0, t1⟩ := ht
    by_cases hh : 2147483648 ≤ t % 4294967296
    all_goals
      go_enter Tryz.func79, Tryz.ntmps79
      go_wp2
      go_ret
      exact ⟨ret_i (by unfold wrap32; omega), rfl⟩
theorem Fits_any (t : Int) (w : World) : Calls Tryz.prog 95 #[.int .i64 t] w fun e w' => e = .returned (.bool (!overB t)) ∧ w = w' := by
  by_cases h : -2147483648 ≤ t
  · go_enter Tryz.func95, Tryz.ntmps95
    go_wp2
    go_ret
    exact ⟨ret_b (by unfold overB; simp [h]), rfl⟩
  · go_enter Tryz.func95, Tryz.ntmps95
    go_wp2
    go_ret
    exact ⟨ret_b (by unfold overB; simp; omega), rfl⟩
theorem Unsigned_any (v : Int) (hv : isW v) (w : World) : Calls Tryz.prog 97 #[.int .i32 v] w fun e w' => e = .returned (.int .i64 (v % 4294967296)) ∧ w = w' := by
  obtain ⟨v0, v1⟩ := hv
  by_cases h : v < 0
  all_goals
    go_enter Tryz.func97, Tryz.ntmps97
    go_wp2
    go_ret
    exact ⟨ret_i (by omega), rfl⟩
theorem size_any (v : Int) (hv : isW v) (w : World) : Calls Tryz.prog 96 #[.int .i32 v] w fun e w' => e = .returned (.int .i64 (v.natAbs : Int)) ∧ w = w' := by
  obtain ⟨v0, v1⟩ := hv
  by_cases h : v < 0
  all_goals
    go_enter Tryz.func96, Tryz.ntmps96
    go_wp2
    go_ret
    exact ⟨ret_i (by omega), rfl⟩
theorem RSub_any (a b : Int) (ha : isW a) (hb : isW b) (w : World) : Calls Tryz.prog 99 #[.int .i32 a, .int .i32 b] w fun e w' => e = .returned (.tuple #[.int .i32 (wrap32 (a - b)), .bool (overB (a - b))]) ∧ w = w' := by
  obtain ⟨a0, a1⟩ := ha
  obtain ⟨b0, b1⟩ := hb
  have hd : isD (a - b) := ⟨by omega, by omega⟩
  go_enter Tryz.func99, Tryz.ntmps99
  go_wp2_with (first | (go_at_call 79; refine (Wrap_any _ hd _).mono ?_; rintro e w' ⟨rfl, rfl⟩) | (go_at_call 95; refine (Fits_any _ _).mono ?_; rintro e w' ⟨rfl, rfl⟩))
  go_ret2
  exact ⟨ret_ib rfl (by simp), rfl⟩
theorem RMul_any (a b : Int) (ha : isW a) (hb : isW b) (w : World) : Calls Tryz.prog 80 #[.int .i32 a, .int .i32 b] w fun e w' => e = .returned (.tuple #[.int .i32 (wrap32 (a * b)), .bool (overB (a * b))]) ∧ w = w' := by
  have hd : isD (a * b) := mul_bd ha hb
  obtain ⟨m0, m1⟩ := mul_bd ha hb
  obtain ⟨a0, a1⟩ := ha
  obtain ⟨b0, b1⟩ := hb
  go_enter Tryz.func80, Tryz.ntmps80
  go_wp2_with (first | (go_at_call 79; refine (Wrap_any _ hd _).mono ?_; rintro e w' ⟨rfl, rfl⟩) | (go_at_call 95; refine (Fits_any _ _).mono ?_; rintro e w' ⟨rfl, rfl⟩))
  go_ret2
  exact ⟨ret_ib rfl (by simp), rfl⟩
theorem RAfter_any (a b : Int) (ha : isW a) (hb : isW b) (w : World) : Calls Tryz.prog 85 #[.int .i32 a, .int .i32 b] w fun e w' => e = .returned (.bool (aftB a b)) ∧ w = w' := by
  go_enter Tryz.func85, Tryz.ntmps85
  go_wp2_with (go_at_call 99; refine (RSub_any _ _ ha hb _).mono ?_; rintro e w' ⟨rfl, rfl⟩)
  go_ret
  exact ⟨ret_b rfl, rfl⟩
theorem tdiv_same {a b : Int} (h : (a < 0) ↔ (b < 0)) : a.tdiv b = (a.natAbs : Int) / (b.natAbs : Int) := by
  rcases Int.lt_or_le a 0 with ha | ha
  · have hb := h.1 ha
    rw [show (a.natAbs : Int) = -a by omega, show (b.natAbs : Int) = -b by omega, ← Int.tdiv_eq_ediv_of_nonneg (by omega), Int.neg_tdiv, Int.tdiv_neg, Int.neg_neg]
  · have hb : ¬ b < 0 := fun hb => by have := h.2 hb; omega
    rw [show (a.natAbs : Int) = a by omega, show (b.natAbs : Int) = b by omega, ← Int.tdiv_eq_ediv_of_nonneg (by omega)]
theorem tdiv_other {a b : Int} (h : ¬ ((a < 0) ↔ (b < 0))) : a.tdiv b = -((a.natAbs : Int) / (b.natAbs : Int)) := by
  rcases Int.lt_or_le a 0 with ha | ha
  · have hb : ¬ b < 0 := fun hb => h ⟨fun _ => hb, fun _ => ha⟩
    rw [show (a.natAbs : Int) = -a by omega, show (b.natAbs : Int) = b by omega, ← Int.tdiv_eq_ediv_of_nonneg (by omega), Int.neg_tdiv, Int.neg_neg]
  · have hb : b < 0 := by
      rcases Int.lt_or_le b 0 with hb | hb
      · exact hb
      · exact absurd ⟨fun h => by omega, fun h => by omega⟩ h
    rw [show (a.natAbs : Int) = a by omega, show (b.natAbs : Int) = -b by omega, ← Int.tdiv_eq_ediv_of_nonneg (by omega), Int.tdiv_neg, Int.neg_neg]
theorem quo_bd {a b : Int} (ha : isW a) : 0 ≤ (a.natAbs : Int) / (b.natAbs : Int) ∧ (a.natAbs : Int) / (b.natAbs : Int) ≤ 2147483648 := by
  obtain ⟨a0, a1⟩ := ha
  have hm : a.natAbs ≤ 2147483648 := by omega
  have hd : a.natAbs / b.natAbs ≤ a.natAbs := Nat.div_le_self ..
  have hc : ((a.natAbs / b.natAbs : Nat) : Int) = (a.natAbs : Int) / (b.natAbs : Int) := Int.natCast_ediv ..
  rw [← hc]
  generalize a.natAbs / b.natAbs = q at *
  generalize a.natAbs = m at *
  omega
theorem size_as {v x : Int} (hx : Hid ((v.natAbs : Int) = x)) (hv : isW v) (w : World) : Calls Tryz.prog 96 #[.int .i32 v] w fun e w' => e = .returned (.int .i64 x) ∧ w = w' := by
  have h := size_any v hv w
  rw [hx.out] at h
  exact h
theorem RDiv_any (a b : Int) (ha : isW a) (hb : isW b) (w : World) : Calls Tryz.prog 77 #[.int .i32 a, .int .i32 b] w fun e w' => e = .returned (.tuple #[.int .i32 (divR a b), .bool (divB a b)]) ∧ w = w' := by
  by_cases hb0 : b = 0
  · subst hb0
    go_enter Tryz.func77, Tryz.ntmps77
    go_wp2
    go_ret2
    exact ⟨ret_ib rfl rfl, rfl⟩
  · by_cases hbig : a = -2147483648 ∧ b = -1
    · obtain ⟨rfl, rfl⟩ := hbig
      have ho : overB 2147483648 = true := by decide
      go_enter Tryz.func77, Tryz.ntmps77
      go_wp2_with (first | (go_at_call 96; refine (size_any _ (by assumption) _).mono ?_; rintro e w' ⟨rfl, rfl⟩) | (go_at_call 95; refine (Fits_any _ _).mono ?_; rintro e w' ⟨rfl, rfl⟩))
      go_ret2
      exact ⟨ret_ib rfl rfl, rfl⟩
    · have hw := tdiv_bd ha hb0 hbig
      obtain ⟨q0, q1⟩ := quo_bd (b := b) ha
      have hne : divB a b = false := by
        unfold divB
        have h1 : (b == 0) = false := by simpa using hb0
        rw [h1]
        cases h2 : (a == -2147483648) <;> cases h3 : (b == -1) <;> simp_all
      have hr : divR a b = a.tdiv b := by unfold divR; rw [hne]; simp
      have b1 : 1 ≤ (b.natAbs : Int) := by omega
      have a1 : 0 ≤ (a.natAbs : Int) := by omega
      have a2 : (a.natAbs : Int) ≤ 2147483648 := by unfold isW at ha; omega
      have b2 : (b.natAbs : Int) ≤ 2147483648 := by unfold isW at hb; omega
      have same : ((a < 0) ↔ (b < 0)) → Hid (a.tdiv b = (a.natAbs : Int) / (b.natAbs : Int)) ∧ overB ((a.natAbs : Int) / (b.natAbs : Int)) = false ∧ (a.natAbs : Int) / (b.natAbs : Int) ≤ 2147483647 := fun hs => by
        have hq := tdiv_same hs
        rw [hq] at hw
        obtain ⟨w0, w1⟩ := hw
        exact ⟨Lib.hid hq, by unfold overB; simp; omega, w1⟩
      have other : ¬ ((a < 0) ↔ (b < 0)) → Hid (a.tdiv b = -((a.natAbs : Int) / (b.natAbs : Int))) ∧ overB (-((a.natAbs : Int) / (b.natAbs : Int))) = false := fun hs => by
        have hq := tdiv_other hs
        rw [hq] at hw
        obtain ⟨w0, w1⟩ := hw
        exact ⟨Lib.hid hq, by unfold overB; simp; omega⟩
      have Hr := Lib.hid hr
      have Hne := Lib.hid hne
      clear hr hne hbig hw
      generalize hx : (a.natAbs : Int) = x at *
      generalize hy : (b.natAbs : Int) = y at *
      have Hx := Lib.hid hx
      have Hy := Lib.hid hy
      clear hx hy
      by_cases sa : a < 0 <;> by_cases sb : b < 0
      · obtain ⟨Hq, ho, q2⟩ := same ⟨fun _ => sb, fun _ => sa⟩
        clear same other
        have ea : decide (a < 0) = true := by simpa using sa
        have eb : decide (b < 0) = true := by simpa using sb
        go_enter Tryz.func77, Tryz.ntmps77
        go_wp2_with fail
        refine (size_as Hx ha _).mono ?_
        rintro e w' ⟨rfl, rfl⟩
        go_wp2_with fail
        refine (size_as Hy hb _).mono ?_
        rintro e w' ⟨rfl, rfl⟩
        go_wp2_with (go_at_call 95; refine (Fits_any _ _).mono ?_; rintro e w' ⟨rfl, rfl⟩)
        go_ret2
        exact ⟨ret_ib (by rw [Hr.out, Hq.out]) Hne.out.symm, rfl⟩
      · obtain ⟨Hq, ho⟩ := other (fun h => sb (h.1 sa))
        clear same other
        have ea : decide (a < 0) = true := by simpa using sa
        have eb : decide (b < 0) = false := by simpa using sb
        go_enter Tryz.func77, Tryz.ntmps77
        go_wp2_with fail
        refine (size_as Hx ha _).mono ?_
        rintro e w' ⟨rfl, rfl⟩
        go_wp2_with fail
        refine (size_as Hy hb _).mono ?_
        rintro e w' ⟨rfl, rfl⟩
        go_wp2_with (go_at_call 95; refine (Fits_any _ _).mono ?_; rintro e w' ⟨rfl, rfl⟩)
        go_ret2
        exact ⟨ret_ib (by rw [Hr.out, Hq.out]) Hne.out.symm, rfl⟩
      · obtain ⟨Hq, ho⟩ := other (fun h => sa (h.2 sb))
        clear same other
        have ea : decide (a < 0) = false := by simpa using sa
        have eb : decide (b < 0) = true := by simpa using sb
        go_enter Tryz.func77, Tryz.ntmps77
        go_wp2_with fail
        refine (size_as Hx ha _).mono ?_
        rintro e w' ⟨rfl, rfl⟩
        go_wp2_with fail
        refine (size_as Hy hb _).mono ?_
        rintro e w' ⟨rfl, rfl⟩
        go_wp2_with (go_at_call 95; refine (Fits_any _ _).mono ?_; rintro e w' ⟨rfl, rfl⟩)
        go_ret2
        exact ⟨ret_ib (by rw [Hr.out, Hq.out]) Hne.out.symm, rfl⟩
      · obtain ⟨Hq, ho, q2⟩ := same ⟨fun h => absurd h sa, fun h => absurd h sb⟩
        clear same other
        have ea : decide (a < 0) = false := by simpa using sa
        have eb : decide (b < 0) = false := by simpa using sb
        go_enter Tryz.func77, Tryz.ntmps77
        go_wp2_with fail
        refine (size_as Hx ha _).mono ?_
        rintro e w' ⟨rfl, rfl⟩
        go_wp2_with fail
        refine (size_as Hy hb _).mono ?_
        rintro e w' ⟨rfl, rfl⟩
        go_wp2_with (go_at_call 95; refine (Fits_any _ _).mono ?_; rintro e w' ⟨rfl, rfl⟩)
        go_ret2
        exact ⟨ret_ib (by rw [Hr.out, Hq.out]) Hne.out.symm, rfl⟩
theorem natAbs_mod {a b : Int} : ((a.natAbs : Int) % (b.natAbs : Int)) = ((a.tmod b).natAbs : Int) := by
  rw [Int.natAbs_tmod, ← Int.natCast_emod]
theorem tmod_sign {a b : Int} : (a < 0 → a.tmod b ≤ 0) ∧ (0 ≤ a → 0 ≤ a.tmod b) := by
  refine ⟨fun h => ?_, fun h => Int.tmod_nonneg b h⟩
  have := Int.tmod_nonneg (a := -a) b (by omega)
  rw [Int.neg_tmod] at this
  omega
theorem RRem_any (a b : Int) (ha : isW a) (hb : isW b) (w : World) : Calls Tryz.prog 78 #[.int .i32 a, .int .i32 b] w fun e w' => e = .returned (.tuple #[.int .i32 (remR a b), .bool (b == 0)]) ∧ w = w' := by
  by_cases hb0 : b = 0
  · subst hb0
    go_enter Tryz.func78, Tryz.ntmps78
    go_wp2
    go_ret2
    exact ⟨ret_ib rfl rfl, rfl⟩
  · have hw := tmod_bd (b := b) ha
    obtain ⟨w0, w1⟩ := hw
    have hm := natAbs_mod (a := a) (b := b)
    have hsg := tmod_sign (a := a) (b := b)
    have h1 : (b == 0) = false := by simpa using hb0
    have hr : remR a b = a.tmod b := by unfold remR; rw [h1]; simp
    have m0 : 0 ≤ (a.natAbs : Int) % (b.natAbs : Int) := by omega
    have m1 : (a.natAbs : Int) % (b.natAbs : Int) ≤ 2147483648 := by omega
    have b1 : 1 ≤ (b.natAbs : Int) := by omega
    have pos : ¬ a < 0 → Hid (a.tmod b = (a.natAbs : Int) % (b.natAbs : Int)) := fun h => Lib.hid (by have := hsg.2 (by omega); omega)
    have neg : a < 0 → Hid (a.tmod b = -((a.natAbs : Int) % (b.natAbs : Int))) := fun h => Lib.hid (by have := hsg.1 h; omega)
    have hp : ¬ a < 0 → (a.natAbs : Int) % (b.natAbs : Int) ≤ 2147483647 := fun h => by have := hsg.2 (by omega); omega
    have Hr := Lib.hid hr
    clear hr hm hsg
    by_cases sa : a < 0
    · have Hq := neg sa
      clear neg pos hp
      go_enter Tryz.func78, Tryz.ntmps78
      go_wp2_with (first | (go_at_call 96; refine (size_any _ (by assumption) _).mono ?_; rintro e w' ⟨rfl, rfl⟩))
      go_ret2
      exact ⟨ret_ib (by rw [Hr.out, Hq.out]) h1.symm, rfl⟩
    · have Hq := pos sa
      have m2 := hp sa
      clear neg pos hp
      go_enter Tryz.func78, Tryz.ntmps78
      go_wp2_with (first | (go_at_call 96; refine (size_any _ (by assumption) _).mono ?_; rintro e w' ⟨rfl, rfl⟩))
      go_ret2
      exact ⟨ret_ib (by rw [Hr.out, Hq.out]) h1.symm, rfl⟩
end Go.Proofs.YtimbiobonigdmaaGreatDoor.W1
/- Contracts of the loops of the reference of layer 1: shifting place by place. -/
set_option linter.unusedVariables false
set_option linter.unusedSimpArgs false
namespace Go.Proofs.YtimbiobonigdmaaGreatDoor.W1
open Go Go.RowKit

theorem wrap32_twice (a : Int) (k : Nat) : wrap32 (2 * wrap32 (a * 2 ^ k)) = wrap32 (a * 2 ^ (k + 1)) := by
  rw [Int.pow_succ, ← Int.mul_assoc]
  generalize a * 2 ^ k = x
  unfold wrap32
  omega
theorem RShl_any (a n : Int) (ha : isW a) (hn : isW n) (w : World) : Calls Tryz.prog 82 #[.int .i32 a, .int .i32 n] w fun e w' => e = .returned (.int .i32 (shlR a n)) ∧ w = w' := by
  have hs : wrap32 (a * 2 ^ 0) = a := by rw [Int.pow_zero, Int.mul_one]; exact wrap32_in ha
  have Hs := Lib.hid hs
  clear hs
  go_enter Tryz.func82, Tryz.ntmps82
  go_wp2
  go_loop [5, 6] (fun t i => ∃ k : Nat, k ≤ plc n ∧ i = .int .i64 k ∧ t = .int .i32 (wrap32 (a * 2 ^ k))) (fun _ i => 32 - (intOf i).toNat)
  case atStart => exact ⟨0, Nat.zero_le _, rfl, by rw [Hs.out]⟩
  case round =>
    obtain ⟨k, hk, rfl, rfl⟩ := hrel
    have hk' := hk
    unfold plc at hk'
    have hW := isW_wrap32 (a * 2 ^ k)
    by_cases hlt : k < plc n
    · have hlt' := hlt
      unfold plc at hlt'
      have c1 : (k : Int) < n % 4294967296 := by omega
      have c2 : k < 32 := by omega
      have Ht := Lib.hid (wrap32_twice a k)
      generalize hx : wrap32 (a * 2 ^ k) = x at *
      have Hx := Lib.hid hx
      clear hx
      have hd : isD (2 * x) := by unfold isW at hW; exact ⟨by omega, by omega⟩
      have hW' := hW
      obtain ⟨x0, x1⟩ := hW'
      clear hk' hlt'
      go_wp2_with (first | (go_at_call 97; refine (Unsigned_any _ hn _).mono ?_; rintro e w' ⟨rfl, rfl⟩) | (go_at_call 79; refine (Wrap_any _ hd _).mono ?_; rintro e w' ⟨rfl, rfl⟩))
      go_round
      case rel => exact ⟨k + 1, by omega, by go_num, by rw [Ht.out]⟩
      case measure => simp [intOf]; omega
    · have hkn : k = plc n := by omega
      have c1 : ¬ ((k : Int) < n % 4294967296 ∧ k < 32) := by unfold plc at hlt; omega
      have hfin : wrap32 (a * 2 ^ k) = shlR a n := by unfold shlR; rw [hkn]
      have Hf := Lib.hid hfin
      clear hfin hkn
      by_cases c2 : (k : Int) < n % 4294967296
      · have c3 : ¬ k < 32 := fun h => c1 ⟨c2, h⟩
        go_wp2_with (first | (go_at_call 97; refine (Unsigned_any _ hn _).mono ?_; rintro e w' ⟨rfl, rfl⟩))
        go_ret
        exact ⟨ret_i Hf.out, rfl⟩
      · go_wp2_with (first | (go_at_call 97; refine (Unsigned_any _ hn _).mono ?_; rintro e w' ⟨rfl, rfl⟩))
        go_ret
        exact ⟨ret_i Hf.out, rfl⟩
theorem half_pow (x : Int) (k : Nat) : x / 2 ^ k / 2 = x / 2 ^ (k + 1) := by
  rw [Int.pow_succ, Int.ediv_ediv_of_nonneg (Int.pow_nonneg (by omega))]
theorem shr_bd (a : Int) (k : Nat) : 0 ≤ a % 4294967296 / 2 ^ k ∧ a % 4294967296 / 2 ^ k ≤ 4294967295 := by
  have h0 : 0 ≤ a % 4294967296 := by omega
  refine ⟨Int.ediv_nonneg h0 (Int.pow_nonneg (by omega)), ?_⟩
  have := Int.ediv_le_self (b := 2 ^ k) h0
  omega
theorem RShr_any (a n : Int) (ha : isW a) (hn : isW n) (w : World) : Calls Tryz.prog 83 #[.int .i32 a, .int .i32 n] w fun e w' => e = .returned (.int .i32 (shrR a n)) ∧ w = w' := by
  have hs : a % 4294967296 / 2 ^ 0 = a % 4294967296 := by rw [Int.pow_zero, Int.ediv_one]
  have Hs := Lib.hid hs
  clear hs
  go_enter Tryz.func83, Tryz.ntmps83
  go_wp2_with (first | (go_at_call 97; refine (Unsigned_any _ ha _).mono ?_; rintro e w' ⟨rfl, rfl⟩))
  go_loop [5, 6] (fun t i => ∃ k : Nat, k ≤ plc n ∧ i = .int .i64 k ∧ t = .int .i64 (a % 4294967296 / 2 ^ k)) (fun _ i => 32 - (intOf i).toNat)
  case atStart => exact ⟨0, Nat.zero_le _, rfl, by rw [Hs.out]⟩
  case round =>
    obtain ⟨k, hk, rfl, rfl⟩ := hrel
    have hk' := hk
    unfold plc at hk'
    obtain ⟨x0, x1⟩ := shr_bd a k
    by_cases hlt : k < plc n
    · have hlt' := hlt
      unfold plc at hlt'
      have c1 : (k : Int) < n % 4294967296 := by omega
      have c2 : k < 32 := by omega
      have Ht := Lib.hid (half_pow (a % 4294967296) k)
      generalize hx : a % 4294967296 / 2 ^ k = x at *
      have Hx := Lib.hid hx
      clear hx
      clear hk' hlt'
      go_wp2_with (first | (go_at_call 97; refine (Unsigned_any _ hn _).mono ?_; rintro e w' ⟨rfl, rfl⟩))
      go_round
      case rel => exact ⟨k + 1, by omega, by go_num, by rw [Ht.out]⟩
      case measure => simp [intOf]; omega
    · have hkn : k = plc n := by omega
      have c1 : ¬ ((k : Int) < n % 4294967296 ∧ k < 32) := by unfold plc at hlt; omega
      have hfin : wrap32 (a % 4294967296 / 2 ^ k) = shrR a n := by unfold shrR; rw [hkn]
      have hd : isD (a % 4294967296 / 2 ^ k) := ⟨by omega, by omega⟩
      have Hf := Lib.hid hfin
      clear hfin hkn
      by_cases c2 : (k : Int) < n % 4294967296
      · have c3 : ¬ k < 32 := fun h => c1 ⟨c2, h⟩
        go_wp2_with (first | (go_at_call 97; refine (Unsigned_any _ hn _).mono ?_; rintro e w' ⟨rfl, rfl⟩) | (go_at_call 79; refine (Wrap_any _ hd _).mono ?_; rintro e w' ⟨rfl, rfl⟩))
        go_ret
        exact ⟨ret_i Hf.out, rfl⟩
      · go_wp2_with (first | (go_at_call 97; refine (Unsigned_any _ hn _).mono ?_; rintro e w' ⟨rfl, rfl⟩) | (go_at_call 79; refine (Wrap_any _ hd _).mono ?_; rintro e w' ⟨rfl, rfl⟩))
        go_ret
        exact ⟨ret_i Hf.out, rfl⟩
end Go.Proofs.YtimbiobonigdmaaGreatDoor.W1
/- The reference's words and symbols. -/
set_option linter.unusedVariables false
set_option linter.unusedSimpArgs false
namespace Go.Proofs.YtimbiobonigdmaaGreatDoor
open Go Go.RowKit L8

theorem byte_eq (a : UInt8) (k : Nat) (hk : k < 256) (b : UInt8) (hb : b.toNat = k) : ((a.toNat : Int) == (k : Int)) = decide (a = b) := by
  by_cases h : a = b
  · subst h; simp [hb]
  · have : a.toNat ≠ k := fun e => h (UInt8.toNat_inj.1 (e.trans hb.symm))
    simp [h]; omega
theorem dle (a b : Nat) : decide (a ≤ b) = decide ((a : Int) ≤ (b : Int)) := decide_eq_decide.2 (by omega)
theorem letter_int (c : UInt8) (n : Nat) (h : c.toNat = n) : letter c = ((decide ((65 : Int) ≤ (n : Int)) && decide ((n : Int) ≤ 90)) || (decide ((97 : Int) ≤ (n : Int)) && decide ((n : Int) ≤ 122))) := by
  subst h
  unfold letter
  rw [dle 65, dle _ 90, dle 97, dle _ 122]
  rfl
theorem digit_int (c : UInt8) (n : Nat) (h : c.toNat = n) : digit c = (decide ((48 : Int) ≤ (n : Int)) && decide ((n : Int) ≤ 57)) := by
  subst h
  unfold digit
  rw [dle 48, dle _ 57]
  rfl
theorem Rletter_any (c : UInt8) (w : World) : Calls Tryz.prog 105 #[.int .u8 (c.toNat : Int)] w fun e w' => e = .returned (.bool (letter c)) ∧ w = w' := by
  obtain ⟨d, hd⟩ : ∃ d, c.toNat = d := ⟨_, rfl⟩
  rw [letter_int c d hd, hd]
  clear hd
  by_cases g1 : (65 : Int) ≤ (d : Int) <;> by_cases g2 : (d : Int) ≤ 90 <;> by_cases g3 : (97 : Int) ≤ (d : Int) <;> by_cases g4 : (d : Int) ≤ 122
  all_goals first
    | (exfalso; omega)
    | (simp only [g1, g2, g3, g4, decide_true, decide_false, Bool.and_true, Bool.and_false, Bool.or_true, Bool.or_false, Bool.true_and, Bool.false_and]
       go_enter Tryz.func105, Tryz.ntmps105
       go_wp2
       go_ret
       exact ⟨rfl, rfl⟩)
theorem Rdigit_any (c : UInt8) (w : World) : Calls Tryz.prog 112 #[.int .u8 (c.toNat : Int)] w fun e w' => e = .returned (.bool (digit c)) ∧ w = w' := by
  obtain ⟨d, hd⟩ : ∃ d, c.toNat = d := ⟨_, rfl⟩
  rw [digit_int c d hd, hd]
  clear hd
  by_cases g1 : (48 : Int) ≤ (d : Int) <;> by_cases g2 : (d : Int) ≤ 57
  all_goals
    simp only [g1, g2, decide_true, decide_false, Bool.and_true, Bool.and_false]
    go_enter Tryz.func112, Tryz.ntmps112
    go_wp2
    go_ret
    exact ⟨rfl, rfl⟩
theorem Rword_any (c : UInt8) (w : World) : Calls Tryz.prog 107 #[.int .u8 (c.toNat : Int)] w fun e w' => e = .returned (.bool (wordB c)) ∧ w = w' := by
  have C1 := Lib.hid (fun W => Rletter_any c W)
  have C2 := Lib.hid (fun W => Rdigit_any c W)
  have q := byte_eq c 46 (by decide) 46 rfl
  have q' : ((c.toNat : Int) == 46) = decide (c = 46) := q
  unfold wordB
  generalize decide (c = 46) = b3 at *
  generalize letter c = b1 at *
  generalize digit c = b2 at *
  generalize c.toNat = N at *
  clear q
  cases b1 <;> cases b2 <;> cases b3
  all_goals
    go_enter Tryz.func107, Tryz.ntmps107
    go_wp2_with (first
      | (go_at_call 105; (with_reducible refine (C1.out _).mono ?_); rintro e w1 ⟨rfl, rfl⟩)
      | (go_at_call 112; (with_reducible refine (C2.out _).mono ?_); rintro e w1 ⟨rfl, rfl⟩))
    go_ret
    exact ⟨rfl, rfl⟩
/-! ### Lists of words -/
theorem ownS_new' {w : World} {q : Nat} {ss : List Bs} (hl : ss.length ≤ maxLen) (hq : w.heap[q]? = some (.cells (sC ss).toArray 9 (0, 0))) : SS w (some ⟨q, 0, none⟩) ss.length ss :=
  OwnS.ss (B := 0) (n := ss.length) ⟨by rw [sC_len]; omega, .inr ⟨q, ss.length, _, rfl, Nat.zero_le _, hq, Nat.le_refl _, hl, by simp [sC_len], by simp [List.take_of_length_le, sC_len]⟩⟩
set_option maxRecDepth 100000 in
theorem RKeys_any (w : World) : Calls Tryz.prog 111 #[] w fun e w' => ∃ A, e = .returned (.slice A 33 33) ∧ SS w' A 33 keys ∧ Below w.heap.size w w' := by
  have HR := Lib.hid (ownS_new' (w := w.alloc (.cells (sC keys).toArray 9)) (q := w.heap.size) (ss := keys) (by unfold maxLen; decide) (boxS_new w 9 (sC keys).toArray))
  have HB := Lib.hid (bal (b0 w) (.cells (sC keys).toArray 9))
  go_enter Tryz.func111, Tryz.ntmps111
  go_wp2
  go_ret
  exact ⟨_, rfl, HR.out, HB.out⟩
theorem contains_hit {ss : List Bs} {s : Bs} {k : Nat} (hk : k < ss.length) (h : ss.getD k [] = s) : ss.contains s = true := by
  have : ss[k] = s := by rw [← h]; simp [hk]
  rw [← this]
  simp
theorem contains_miss {ss : List Bs} {s : Bs} (h : ∀ j, j < ss.length → ss.getD j [] ≠ s) : ss.contains s = false := by
  cases hc : ss.contains s with
  | false => rfl
  | true =>
    obtain ⟨i, hi, e⟩ := List.getElem_of_mem (show s ∈ ss by simpa using hc)
    exact absurd (by simp [hi, e]) (h i hi)
theorem Ramong_any {A : Option Addr} {c m : Nat} {ss : List Bs} {w : World} (s : Bs) (R : SS w A c ss) (hm : ss.length = m) : Calls Tryz.prog 110 #[.string (strOf s), .slice A m c] w fun e w' => e = .returned (.bool (ss.contains s)) ∧ w = w' := by
  have HR := Lib.hid R
  have HM := Lib.hid hm
  have hmx : m ≤ maxLen := by have := R.le; have := R.mx; omega
  unfold maxLen at hmx
  have HH := Lib.hid (fun k (hk : k < m) => contains_hit (ss := ss) (s := s) (k := k) (by omega))
  have HN := Lib.hid (fun (h : ∀ j, j < m → ss.getD j [] ≠ s) => contains_miss (ss := ss) (s := s) (fun j hj => h j (by omega)))
  clear R hm
  generalize ss.contains s = b at *
  go_enter Tryz.func110, Tryz.ntmps110
  go_wp2
  go_loopw [5] (fun i wr => ∃ k : Nat, k ≤ m ∧ i = .int .i64 k ∧ w = wr ∧ Hid (∀ j, j < k → ss.getD j [] ≠ s)) (fun i _ => m - (intOf i).toNat)
  case atStart => exact ⟨0, Nat.zero_le _, rfl, rfl, Lib.hid (fun j h => absurd h (by omega))⟩
  case round =>
    obtain ⟨k, hk, rfl, rfl, H⟩ := hrel
    have hk0 : (0 : Int) ≤ (k : Int) := by omega
    by_cases hk1 : (k : Int) < (m : Int)
    · obtain ⟨ad, rfl, g0⟩ := HR.out.rd k (by have := HM.out; omega)
      have HHk := Lib.hid (HH.out k (by omega))
      have HS : Hid (ss.getD k [] ≠ s → ∀ j, j < k + 1 → ss.getD j [] ≠ s) := Lib.hid fun h j hj => by
        by_cases h2 : j < k
        · exact H.out j h2
        · rw [show j = k by omega]; exact h
      have he := eqS (ss.getD k []) s
      generalize ss.getD k [] = y at *
      by_cases hy : y = s
      · have HE := Lib.hid (HHk.out hy)
        rw [decide_eq_true hy] at he
        clear hy HHk HS H
        generalize strOf y = Y at *
        go_wp2
        go_ret
        rw [HE.out]
        exact ⟨rfl, rfl⟩
      · have HE := Lib.hid (HS.out hy)
        rw [decide_eq_false hy] at he
        clear hy HHk HS H
        generalize strOf y = Y at *
        go_wp2
        go_roundw
        case rel => exact ⟨k + 1, by omega, by go_num, trivial, HE⟩
        case measure => simp [intOf]; omega
    · obtain rfl : k = m := by omega
      have HE := Lib.hid (HN.out H.out)
      clear H
      go_wp2
      go_ret
      rw [HE.out]
      exact ⟨rfl, rfl⟩
theorem RKey_any (s : Bs) (w : World) : Calls Tryz.prog 106 #[.string (strOf s)] w fun e w' => e = .returned (.bool (isKey s)) ∧ Below w.heap.size w w' := by
  have C1 := Lib.hid (RKeys_any w)
  have C2 := Lib.hid (fun (W : World) (A : Option Addr) (R : SS W A 33 keys) => show Calls Tryz.prog 110 #[.string (strOf s), .slice A 33 33] W (fun e w' => e = .returned (.bool (isKey s)) ∧ W = w') from Ramong_any s R rfl)
  generalize isKey s = b at *
  go_enter Tryz.func106, Tryz.ntmps106
  go_wp2_with (first
    | (go_at_call 111; (with_reducible refine (C1.out).mono ?_); rintro e w1 ⟨A, rfl, h1, h2⟩; have H1 := Lib.hid (And.intro h1 h2); clear h1 h2)
    | (go_at_call 110; (with_reducible refine (C2.out _ _ H1.out.1).mono ?_); rintro e w2 ⟨rfl, rfl⟩))
  go_ret
  exact ⟨rfl, H1.out.2⟩
end Go.Proofs.YtimbiobonigdmaaGreatDoor
/- The reference's names and values of digits. -/
set_option linter.unusedVariables false
set_option linter.unusedSimpArgs false
namespace Go.Proofs.YtimbiobonigdmaaGreatDoor
open Go Go.RowKit L8

theorem name_no {s : Bs} (h : s = [] ∨ 32 < s.length ∨ letter (s.headD 0) = false ∨ isKey s = true ∨ s.all wordB = false) : isName s = false := by
  unfold isName
  rcases h with rfl | h | h | h | h
  · rfl
  · rw [decide_eq_false (show ¬ s.length ≤ 32 by omega)]; simp
  · rw [h]; simp
  · rw [h]; simp
  · rw [h]; simp
theorem name_yes {s : Bs} (h1 : s ≠ []) (h2 : s.length ≤ 32) (h3 : letter (s.headD 0) = true) (h4 : isKey s = false) (h5 : s.all wordB = true) : isName s = true := by
  unfold isName
  have := List.length_pos_iff.2 h1
  rw [decide_eq_true (show 1 ≤ s.length by omega), decide_eq_true h2, h3, h4, h5]
  rfl
theorem all_snoc {l : Bs} {k : Nat} {f : UInt8 → Bool} (hk : k < l.length) (h : (l.take k).all f = true) (hc : f (l.getD k 0) = true) : (l.take (k + 1)).all f = true := by
  rw [List.take_succ_eq_append_getElem hk, List.all_append, h, Bool.true_and]
  have : l.getD k 0 = l[k] := by simp [hk]
  rw [this] at hc
  simp [hc]
theorem all_bad {l : Bs} {k : Nat} {f : UInt8 → Bool} (hk : k < l.length) (hc : f (l.getD k 0) = false) : l.all f = false := by
  cases h : l.all f with
  | false => rfl
  | true =>
    rw [List.all_eq_true] at h
    have : l.getD k 0 = l[k] := by simp [hk]
    rw [this, h _ (List.getElem_mem hk)] at hc
    cases hc
set_option maxRecDepth 100000 in
set_option maxHeartbeats 4000000 in
theorem RName_any (s : Bs) (hl : s.length ≤ maxLen) (w : World) : Calls Tryz.prog 93 #[.string (strOf s)] w fun e w' => e = .returned (.bool (isName s)) ∧ Below w.heap.size w w' := by
  have hsz := size_strOf s
  obtain ⟨n, hn⟩ : ∃ n, s.length = n := ⟨_, rfl⟩
  rw [hn] at hsz hl
  unfold maxLen at hl
  have hn0 : (0 : Int) ≤ (n : Int) := by omega
  have CL := Lib.hid (fun (k : Nat) (W : World) => Rletter_any (s.getD k 0) W)
  have CK := Lib.hid (fun (W : World) => RKey_any s W)
  have CWd := Lib.hid (fun (k : Nat) (W : World) => Rword_any (s.getD k 0) W)
  by_cases h0 : s = []
  · rw [name_no (.inl h0)]
    have q1 : (n : Int) < 1 := by rw [h0] at hn; simp at hn; omega
    clear hn h0
    go_enter Tryz.func93, Tryz.ntmps93
    go_wp2
    go_ret
    exact ⟨rfl, b0 _⟩
  · have hpos := List.length_pos_iff.2 h0
    have q1 : ¬ (n : Int) < 1 := by omega
    by_cases h32 : (32 : Int) < (n : Int)
    · rw [name_no (.inr (.inl (by omega)))]
      clear hn h0 hpos
      go_enter Tryz.func93, Tryz.ntmps93
      go_wp2
      go_ret
      exact ⟨rfl, b0 _⟩
    · have hi0 : ∀ W : World, (Instr.index 9 (.string (strOf s)) (.int .i64 0)).run Tryz.prog W = .ok (.int .u8 ((s.getD 0 0).toNat : Int)) W := index_l s 0 (by omega)
      have hh : s.headD 0 = s.getD 0 0 := by cases s with | nil => rfl | cons c r => rfl
      have hN1 := @name_no s
      have hN2 := @name_yes s h0 (by omega)
      rw [hh] at hN1 hN2
      have CL0 := Lib.hid (CL.out 0)
      cases hlt : letter (s.getD 0 0) with
      | false =>
        rw [hN1 (.inr (.inr (.inl hlt)))]
        rw [hlt] at CL0
        clear hn h0 hpos hh hN1 hN2 hlt CL CK CWd
        generalize (s.getD 0 0).toNat = N at *
        go_enter Tryz.func93, Tryz.ntmps93
        go_wp2_with (go_at_call 105; (with_reducible refine (CL0.out _).mono ?_); rintro e w1 ⟨rfl, rfl⟩)
        go_ret
        exact ⟨rfl, b0 _⟩
      | true =>
        rw [hlt] at CL0
        cases hk : isKey s with
        | true =>
          rw [hN1 (.inr (.inr (.inr (.inl hk))))]
          rw [hk] at CK
          clear hn h0 hpos hh hN1 hN2 hlt CL CWd hk
          generalize (s.getD 0 0).toNat = N at *
          go_enter Tryz.func93, Tryz.ntmps93
          go_wp2_with (first
            | (go_at_call 105; (with_reducible refine (CL0.out _).mono ?_); rintro e w1 ⟨rfl, rfl⟩)
            | (go_at_call 106; (with_reducible refine (CK.out _).mono ?_); rintro e w2 ⟨rfl, b2⟩; have B2 := Lib.hid b2; clear b2))
          go_ret
          exact ⟨rfl, B2.out⟩
        | false =>
          rw [hk] at CK
          have HNo := Lib.hid (fun h => hN1 (.inr (.inr (.inr (.inr h)))))
          have HYes := Lib.hid (hN2 hlt hk)
          have HM := Lib.hid hn
          have HI := Lib.hid (fun k (h : k < n) => index_l s k (by omega))
          clear hn h0 hpos hh hN1 hN2 hlt CL hk
          generalize (s.getD 0 0).toNat = N at *
          generalize isName s = b at *
          go_enter Tryz.func93, Tryz.ntmps93
          go_wp2_with (first
            | (go_at_call 105; (with_reducible refine (CL0.out _).mono ?_); rintro e w1 ⟨rfl, rfl⟩)
            | (go_at_call 106; (with_reducible refine (CK.out _).mono ?_); rintro e w2 ⟨rfl, b2⟩; have B2 := Lib.hid b2; clear b2))
          clear hi0
          go_loopw [3] (fun i wr => ∃ k : Nat, k ≤ n ∧ i = .int .i64 k ∧ w2 = wr ∧ Hid ((s.take k).all wordB = true)) (fun i _ => n - (intOf i).toNat)
          case atStart => exact ⟨0, Nat.zero_le _, rfl, rfl, Lib.hid (by rw [List.take_zero]; rfl)⟩
          case round =>
            obtain ⟨k, hk, rfl, rfl, H⟩ := hrel
            have hk0 : (0 : Int) ≤ (k : Int) := by omega
            by_cases hk1 : (k : Int) < (n : Int)
            · have hi := HI.out k (by omega)
              have Cw := Lib.hid (CWd.out k)
              have HS := Lib.hid (fun h => all_snoc (l := s) (k := k) (f := wordB) (by have := HM.out; omega) H.out h)
              have HB := Lib.hid (fun h => HNo.out (all_bad (l := s) (k := k) (f := wordB) (by have := HM.out; omega) h))
              generalize s.getD k 0 = c at *
              cases hc : wordB c with
              | false =>
                rw [hc] at Cw
                have HE := Lib.hid (HB.out hc)
                clear hc HS HB H
                generalize c.toNat = M at *
                go_wp2_with (go_at_call 107; (with_reducible refine (Cw.out _).mono ?_); rintro e w3 ⟨rfl, rfl⟩)
                go_ret
                rw [HE.out]
                exact ⟨rfl, B2.out⟩
              | true =>
                rw [hc] at Cw
                have HE := Lib.hid (HS.out hc)
                clear hc HS HB H
                generalize c.toNat = M at *
                go_wp2_with (go_at_call 107; (with_reducible refine (Cw.out _).mono ?_); rintro e w3 ⟨rfl, rfl⟩)
                go_roundw
                case rel => exact ⟨k + 1, by omega, by go_num, trivial, HE⟩
                case measure => simp [intOf]; omega
            · obtain rfl : k = n := by omega
              have HE := Lib.hid (HYes.out (by have h := H.out; rwa [List.take_of_length_le (by have := HM.out; omega)] at h))
              clear H
              go_wp2
              go_ret
              rw [HE.out]
              exact ⟨rfl, B2.out⟩
/-! ### Values -/
def VR (o : Option Nat) (e : Ending) : Prop := match o with
  | some v => e = .returned (.tuple #[.int .i64 (v : Int), .bool true])
  | none => ∃ z : Int, e = .returned (.tuple #[.int .i64 z, .bool false])
theorem value_short {b most lim : Nat} {s : Bs} (h : s.length < 1 ∨ most < s.length) : value b most lim s = none := by unfold value; rw [if_pos h]
theorem value_of {b most lim : Nat} {s : Bs} (h : ¬ (s.length < 1 ∨ most < s.length)) : value b most lim s = match numL b s 0 with | some v => if v < lim then some v else none | none => none := by
  unfold value; rw [if_neg h]
  cases numL b s 0 <;> rfl
theorem numL_step {b : Nat} {s : Bs} {k n : Nat} (h : k < s.length) : numL b (s.drop k) n = match dval b (s.getD k 0) with | some d => numL b (s.drop (k + 1)) (n * b + d) | none => none := by
  have e : s.getD k 0 = s[k] := by simp [h]
  rw [List.drop_eq_getElem_cons h, e]
  rfl
theorem step_bd {b a d k : Nat} (hb : b = 10 ∨ b = 16) (ha : a < 16 ^ k) (hd : d < b) (hk : k < 10) : a * b + d < 16 ^ (k + 1) ∧ a * b ≤ 1099511627776 := by
  have h1 : (a + 1) * 16 ≤ 16 ^ k * 16 := Nat.mul_le_mul_right 16 ha
  have h2 : a * b ≤ a * 16 := Nat.mul_le_mul_left a (by omega)
  have h3 : (16 : Nat) ^ k ≤ 16 ^ 9 := Nat.pow_le_pow_right (by decide) (by omega)
  have h4 : (16 : Nat) ^ 9 = 68719476736 := by decide
  rw [Nat.pow_succ]
  omega
theorem dval_dig {b : Nat} {c : UInt8} (h : digit c = true) : dval b c = some (c.toNat - 48) ∧ 48 ≤ c.toNat ∧ c.toNat ≤ 57 := by
  unfold digit at h
  simp only [Bool.and_eq_true, decide_eq_true_eq] at h
  unfold dval
  rw [if_pos h]
  exact ⟨rfl, h⟩
theorem dval_hex {c : UInt8} (h : digit c = false) (h1 : 65 ≤ c.toNat) (h2 : c.toNat ≤ 70) : dval 16 c = some (c.toNat - 55) := by
  unfold dval
  rw [if_neg (by omega), if_pos ⟨rfl, h1, h2⟩]
theorem dval_no {b : Nat} {c : UInt8} (h : digit c = false) (h1 : b = 10 ∨ c.toNat < 65 ∨ 70 < c.toNat) (hb : b = 10 ∨ b = 16) : dval b c = none := by
  unfold digit at h
  simp only [Bool.and_eq_false_iff, decide_eq_false_iff_not] at h
  unfold dval
  rw [if_neg (by omega), if_neg (by omega)]
end Go.Proofs.YtimbiobonigdmaaGreatDoor
/- The reference's tokens that exist, and which are near. -/
set_option linter.unusedVariables false
set_option linter.unusedSimpArgs false
namespace Go.Proofs.YtimbiobonigdmaaGreatDoor
open Go Go.RowKit L8

theorem may_low {t : Tk} (h : t.a < 0) : may t = false := by unfold may; rw [decide_eq_false (show ¬ 0 ≤ t.a by omega)]; rfl
theorem may_high {t : Tk} (h : 255 < t.a) : may t = false := by unfold may; rw [decide_eq_false (show ¬ t.a ≤ 255 by omega)]; simp
theorem may_1 {a n : Int} {tx : Bs} (h1 : 0 ≤ a) (h2 : a ≤ 255) : may ⟨1, a, tx, n⟩ = (isName tx && decide (n = 0)) := by
  unfold may; dsimp only; rw [decide_eq_true h1, decide_eq_true h2, Bool.true_and, Bool.true_and]; rfl
theorem may_2 {a n : Int} {tx : Bs} (h1 : 0 ≤ a) (h2 : a ≤ 255) : may ⟨2, a, tx, n⟩ = (isKey tx && decide (n = 0)) := by
  unfold may; dsimp only; rw [decide_eq_true h1, decide_eq_true h2, Bool.true_and, Bool.true_and]; rfl
theorem may_3 {a n : Int} {tx : Bs} (h1 : 0 ≤ a) (h2 : a ≤ 255) : may ⟨3, a, tx, n⟩ = tx.isEmpty := by
  unfold may; dsimp only; rw [decide_eq_true h1, decide_eq_true h2, Bool.true_and, Bool.true_and]; rfl
theorem may_4 {a n : Int} {tx : Bs} (h1 : 0 ≤ a) (h2 : a ≤ 255) : may ⟨4, a, tx, n⟩ = (tx.isEmpty && decide (0 ≤ n) && decide (n ≤ 255)) := by
  unfold may; dsimp only; rw [decide_eq_true h1, decide_eq_true h2, Bool.true_and, Bool.true_and]; rfl
theorem may_5 {a n : Int} {tx : Bs} (h1 : 0 ≤ a) (h2 : a ≤ 255) : may ⟨5, a, tx, n⟩ = (isSym tx && decide (n = 0)) := by
  unfold may; dsimp only; rw [decide_eq_true h1, decide_eq_true h2, Bool.true_and, Bool.true_and]; rfl
theorem may_oth {t : Tk} (h : t.k ≠ 1 ∧ t.k ≠ 2 ∧ t.k ≠ 3 ∧ t.k ≠ 4 ∧ t.k ≠ 5) : may t = false := by
  cases hm : may t with
  | false => rfl
  | true => obtain ⟨_, _, hp⟩ := may_parts hm; omega
theorem int_eq0 (n : Int) : (n == 0) = decide (n = 0) := by by_cases h : n = 0 <;> simp [h]
theorem eq_nil (l : Bs) : ((strOf l).toList == []) = l.isEmpty := by
  rw [toList_strOf]; cases l <;> rfl
end Go.Proofs.YtimbiobonigdmaaGreatDoor
