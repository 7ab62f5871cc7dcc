/- All instructions of a sequence of bytes: what is decoded; the reference decodes them. -/
import Derived.Test.YtiblicpaeogihaaRjoin
namespace Go.Proofs.Ytiblicpaeogihaa
open Go Go.RowKit

theorem get_drop {xs : List Nat} (h : (get xs).e = 0) (hx : xs ≠ []) : (xs.drop (get xs).n).length < xs.length := by
  have := gt_n (m := 16) (o := 0) (k := 0) (xs := xs) h
  have h0 : 0 < xs.length := List.length_pos_iff.2 hx
  rw [List.length_drop]
  show xs.length - (gt 16 0 0 xs).n < _
  omega
/-- What is decoded, one after the other, with the error of what is no instruction at the end. -/
def items (xs : List Nat) : List Got :=
  if _hx : xs = [] then [] else if _he : (get xs).e = 0 then get xs :: items (xs.drop (get xs).n) else [get xs]
termination_by xs.length
decreasing_by exact get_drop _he _hx
theorem items_nil : items [] = [] := by rw [items, dif_pos rfl]
theorem items_ok {xs : List Nat} (hx : xs ≠ []) (he : (get xs).e = 0) : items xs = get xs :: items (xs.drop (get xs).n) := by rw [items, dif_neg hx, dif_pos he]
theorem items_bad {xs : List Nat} (hx : xs ≠ []) (he : (get xs).e ≠ 0) : items xs = [get xs] := by rw [items, dif_neg hx, dif_neg he]
def lastE (l : List Got) : Int := match l.getLast? with | some g => g.e | none => 0
theorem lastE_snoc (l : List Got) (g : Got) : lastE (l ++ [g]) = g.e := by simp [lastE]
def okp (l : List Got) : Prop := ∀ g ∈ l, g.e = 0
theorem okp.app {l k : List Got} (h : okp l) (h' : okp k) : okp (l ++ k) := fun g hg => (List.mem_append.1 hg).elim (h g) (h' g)
theorem okp.one {g : Got} (h : g.e = 0) : okp [g] := fun g' hg => by simp at hg; subst hg; exact h
theorem lastE_ok {l : List Got} (h : okp l) : lastE l = 0 := by
  unfold lastE
  split
  · rename_i g hg
    exact h g (List.mem_of_getLast? hg)
  · rfl
def toI (l : List Got) : List II := l.map fun g => (g.fn, g.arg)
theorem toI_snoc (l : List Got) (g : Got) : toI (l ++ [g]) = toI l ++ [(g.fn, g.arg)] := by simp [toI]
theorem toI_len (l : List Got) : (toI l).length = l.length := by simp [toI]
def ae (xs : List Nat) : Int := if 32768 < xs.length then 3 else lastE (items xs)
def al (xs : List Nat) : List II := if ae xs = 0 then toI (items xs) else []
theorem ae_long {xs : List Nat} (h : 32768 < xs.length) : ae xs = 3 := if_pos h
theorem al_no {xs : List Nat} (h : ae xs ≠ 0) : al xs = [] := if_neg h
theorem al_ok {xs : List Nat} (h : ae xs = 0) : al xs = toI (items xs) := if_pos h
/-- Where a decoder of many stands: these have come, the others come from here on. -/
def Upto (xs : List Nat) (at_ : Nat) (pre : List Got) : Prop := at_ ≤ xs.length ∧ okp pre ∧ pre ++ items (xs.drop at_) = items xs ∧ pre.length ≤ at_
theorem upto_start (xs : List Nat) : Upto xs 0 [] := ⟨Nat.zero_le _, (fun _ h => nomatch h), rfl, Nat.le_refl _⟩
theorem drop_ne {xs : List Nat} {k : Nat} (h : k < xs.length) : xs.drop k ≠ [] := by
  intro e
  have := congrArg List.length e
  simp at this
  omega
theorem upto_next {xs : List Nat} {k : Nat} {pre : List Got} (h : Upto xs k pre) (hk : k < xs.length) (he : (get (xs.drop k)).e = 0) : Upto xs (k + (get (xs.drop k)).n) (pre ++ [get (xs.drop k)]) := by
  have h1 := h.2.2.1
  have hn := gt_n (m := 16) (o := 0) (k := 0) (xs := xs.drop k) he
  have e1 : (get (xs.drop k)).n = (gt 16 0 0 (xs.drop k)).n := rfl
  rw [List.length_drop] at hn
  rw [items_ok (drop_ne hk) he, List.drop_drop] at h1
  refine ⟨by omega, h.2.1.app (okp.one he), ?_, ?_⟩
  · rw [List.append_assoc]; exact h1
  · have := h.2.2.2; simp; omega
theorem upto_bad {xs : List Nat} {k : Nat} {pre : List Got} (h : Upto xs k pre) (hk : k < xs.length) (he : (get (xs.drop k)).e ≠ 0) : items xs = pre ++ [get (xs.drop k)] := by
  rw [← h.2.2.1, items_bad (drop_ne hk) he]
theorem upto_end {xs : List Nat} {pre : List Got} (h : Upto xs xs.length pre) : items xs = pre := by
  rw [← h.2.2.1, List.drop_length, items_nil, List.append_nil]
theorem upto_less {xs : List Nat} {k : Nat} {pre : List Got} (h : Upto xs k pre) (hk : k < xs.length) : pre.length < (items xs).length := by
  rw [← h.2.2.1, List.length_append]
  have : 0 < (items (xs.drop k)).length := by
    by_cases he : (get (xs.drop k)).e = 0
    · rw [items_ok (drop_ne hk) he]; simp
    · rw [items_bad (drop_ne hk) he]; simp
  omega
theorem upto_pre {xs : List Nat} {k : Nat} {pre : List Got} (h : Upto xs k pre) (hk : k < xs.length) : pre ++ [get (xs.drop k)] <+: items xs := by
  rw [← h.2.2.1]
  by_cases he : (get (xs.drop k)).e = 0
  · rw [items_ok (drop_ne hk) he]
    exact ⟨items ((xs.drop k).drop (get (xs.drop k)).n), by simp⟩
  · rw [items_bad (drop_ne hk) he]
    exact ⟨[], by simp⟩
theorem items_words {xs : List Nat} (hb : BY xs) : OKI (toI (items xs)) := by
  generalize hn : xs.length = n
  induction n using Nat.strongRecOn generalizing xs with
  | ind n ih =>
    subst hn
    by_cases hx : xs = []
    · subst hx; rw [items_nil]; intro p hp; cases hp
    · have hw := gt_word (m := 16) (k := 0) reg_zero hb
      by_cases he : (get xs).e = 0
      · rw [items_ok hx he]
        intro p hp
        simp only [toI, List.map_cons, List.mem_cons] at hp
        rcases hp with rfl | hp
        · exact ⟨hw.1, hw.2.1, hw.2.2.1⟩
        · exact ih _ (get_drop he hx) (fun x hx => hb x (List.mem_of_mem_drop hx)) rfl p hp
      · rw [items_bad hx he]
        intro p hp
        simp only [toI, List.map_cons, List.map_nil, List.mem_cons, List.not_mem_nil, or_false] at hp
        subst hp
        exact ⟨hw.1, hw.2.1, hw.2.2.1⟩
theorem al_words {xs : List Nat} (hb : BY xs) : OKI (al xs) := by
  unfold al
  split
  · exact items_words hb
  · intro p hp; cases hp
theorem RS.from_ {w : World} {A : Option Addr} {c : Nat} {xs : List Nat} (h : RS w A c xs) (m : Nat) : RS w (A.map fun x => x.add m) (c - m) (xs.drop m) :=
  ⟨by have := h.le; simp; omega, by have := h.mx; omega, fun x hx => h.by_ x (List.mem_of_mem_drop hx), fun j hj => by
    simp only [List.length_drop] at hj
    obtain ⟨ad, rfl, hc⟩ := h.rd (m + j) (by omega)
    refine ⟨_, rfl, ?_⟩
    rw [add_add_, hc]
    unfold bc
    simp only [List.getD_eq_getElem?_getD]
    rw [List.getElem?_drop]⟩
theorem rGet_at {A : Option Addr} {c f n m : Nat} {v e' : Int} {xs : List Nat} {w : World} (R : RS w A c xs) (hm : m = xs.length) (h : get xs = ⟨f, v, n, e'⟩) : Calls Try.prog 19 #[.slice A m c] w fun e w' =>
    e = .returned (.tuple #[.agg #[.int .u8 (f : Int), .int .i32 v], .int .i64 (n : Int), .int .i64 e']) ∧ w.grownBy w' none := by
  subst hm
  have := rGet_any R
  rw [h] at this
  exact this
theorem cell2_new {w : World} {a b : Value} {t : TypeId} {k : Nat} (h : k = w.heap.size) : (w.alloc (.cells #[a, b] t)).cell? ⟨k, 0, none⟩ = some a ∧ (w.alloc (.cells #[a, b] t)).cell? ⟨k, 1, none⟩ = some b := by
  subst h
  exact box_cells (World.grownBy.refl _ none)
/-- New instructions were made: the slice of them, and an error. -/
def GivesI (w : World) (e' : Int) (l : List II) (e : Ending) (w' : World) : Prop := ∃ A c, e = .returned (.tuple #[.slice A l.length c, .int .i64 e']) ∧ OwnI w' w.heap.size A l.length c l ∧ w.grownBy w' none
theorem ownI_nil (w : World) (B : Nat) : OwnI w B none 0 0 [] := World.ownsRow_nil w B _ 2
theorem ownI_app {W w w' : World} {o : Option Obj} {A A' : Option Addr} {n n' c c' : Nat} {l l' : List II} (h : W.grownBy w none) (hown : OwnI w W.heap.size A n c l) (g : ((o.elim w w.alloc)).grownBy w' (Value.slice A n c).ownBlock) (ho : OwnI w' W.heap.size A' n' c' l') :
    W.grownBy w' none ∧ OwnI w' W.heap.size A' n' c' l' := by
  cases o with
  | none => exact ⟨g_app2 h hown g, ho⟩
  | some o => exact ⟨g_app2 (w := w.alloc o) (g_trans h (World.grownBy_alloc w o none)) (World.ownsRow.alloc hown o) g, ho⟩
theorem ownI_keep {w w' : World} {B n c : Nat} {A : Option Addr} {l : List II} (h : OwnI w B A n c l) (g : w.grownBy w' none) : OwnI w' B A n c l :=
  World.ownsRow.kept h g (by cases (Value.slice A n c).ownBlock <;> simp)
set_option maxRecDepth 100000 in
set_option maxHeartbeats 4000000 in
theorem rAll_any {A : Option Addr} {c n : Nat} {xs : List Nat} {w : World} (R : RS w A c xs) (hn : xs.length = n) : Calls Try.prog 23 #[.slice A n c] w (GivesI w (ae xs) (al xs)) := by
  unfold GivesI
  have HR := Lib.hid R
  have HN := Lib.hid hn
  have hm := R.le
  have hm2 := R.mx
  rw [hn] at hm
  unfold maxLen at hm2
  by_cases h3 : (32768 : Int) < (n : Int)
  · have E := Lib.hid (ae_long (xs := xs) (by rw [hn]; omega))
    have E2 := Lib.hid (al_no (xs := xs) (by rw [E.out]; decide))
    clear R hn
    go_enter Try.func23, Try.ntmps23
    go_wp2
    go_ret2
    rw [E.out, E2.out]
    exact ⟨none, 0, rfl, ownI_nil _ _, World.grownBy.refl _ _⟩
  · have HE := Lib.hid (show ae xs = lastE (items xs) from if_neg (by rw [hn]; omega))
    clear R hn
    go_enter Try.func23, Try.ntmps23
    go_wp2
    go_loopw [4, 5] (fun b i wr => ∃ (k j : Nat) (pre : List Got), k ≤ n ∧ i = .int .i64 k ∧ j ≤ k ∧ ∃ A1 c1, b = .slice A1 j c1 ∧ Hid ((w.grownBy wr none ∧ OwnI wr w.heap.size A1 j c1 (toI pre)) ∧ Upto xs k pre ∧ j = pre.length)) (fun _ i _ => n - (intOf i).toNat)
    case atStart => exact ⟨0, 0, [], by omega, rfl, by omega, _, _, rfl, ⟨World.grownBy.refl _ _, ownI_nil _ _⟩, upto_start xs, rfl⟩
    case round =>
      obtain ⟨k, j, pre, hk, rfl, hj, A1, c1, rfl, H⟩ := hrel
      by_cases hlt : k < n
      · have hkl : k < xs.length := by have := HN.out; omega
        obtain ⟨f, v, q, e, hG⟩ : ∃ f v q e, get (xs.drop k) = ⟨f, v, q, e⟩ := ⟨_, _, _, _, rfl⟩
        have CG := Lib.hid (rGet_at (m := n - k) ((HR.out.kept0 H.out.1.1).from_ k) (by rw [List.length_drop, HN.out]) hG)
        have hq : e = 0 → 0 < q ∧ q ≤ n - k := by
          intro he
          have := gt_n (m := 16) (o := 0) (k := 0) (xs := xs.drop k) (by show (get (xs.drop k)).e = 0; rw [hG]; exact he)
          have e2 : (gt 16 0 0 (xs.drop k)).n = q := by show (get (xs.drop k)).n = q; rw [hG]
          rw [e2, List.length_drop, HN.out] at this
          omega
        have r1 : ¬ c = k := by omega
        have r2 : (0 : Int) ≤ (k : Int) := by omega
        have r3 : (k : Int) ≤ (n : Int) := by omega
        have r4 : (k : Int) ≤ (c : Int) := by omega
        by_cases he : e = 0
        · subst he
          have HU := Lib.hid (upto_next H.out.2.1 hkl (by rw [hG]))
          obtain ⟨q0, q1⟩ := hq rfl
          rw [hG] at HU
          have hjk : j ≤ 32768 := by omega
          clear hG hkl
          go_wp2_with (first
            | (go_at_call 19; (with_reducible refine CG.out.mono ?_); rintro e w5 ⟨rfl, g5⟩; have H5 := Lib.hid (And.intro (g_trans (g_trans H.out.1.1 g5) (World.grownBy_alloc w5 (.cells #[.int .u8 (f : Int), .int .i32 v] 23) none)) (ownI_keep H.out.1.2 (g_trans g5 (World.grownBy_alloc w5 (.cells #[.int .u8 (f : Int), .int .i32 v] 23) none)))); clear g5)
            | (at_builtin; refine app_ins rfl (.tmp 27) (.tmp 29) rfl w.heap.size j c1 1 A1 (w5.heap.size + 1) (toI pre) f v rfl rfl (World.ownsRow.alloc H5.out.2 _) (cell2_new (by simp)) (by omega) (by have := H5.out.1.size; simp at this ⊢; omega) ?_; intro g6 c6 w6 o6 g6' _; have H6 := Lib.hid (ownI_app (o := some _) H5.out.1 H5.out.2 g6' o6); clear o6 g6'))
          rw [← toI_snoc pre ⟨f, v, q, 0⟩] at H6
          go_roundw
          case rel => exact ⟨k + q, j + 1, _, by omega, by go_num, by omega, _, _, rfl, H6.out, HU.out, by rw [List.length_append, ← H.out.2.2]; rfl⟩
          case measure => simp [intOf]; omega
        · have HI := upto_bad H.out.2.1 hkl (by rw [hG]; exact he)
          rw [hG] at HI
          have E := Lib.hid (show ae xs = e by rw [HE.out, HI, lastE_snoc])
          have E2 := Lib.hid (al_no (xs := xs) (by rw [E.out]; exact he))
          have r5 : (e == 0) = false := by simpa using he
          have r6 : (e != 0) = true := by simpa using he
          clear hG hkl HI hq
          go_wp2_with (go_at_call 19; (with_reducible refine CG.out.mono ?_); rintro e5 w5 ⟨rfl, g5⟩; have H5 := Lib.hid (g_trans (g_trans H.out.1.1 g5) (World.grownBy_alloc w5 (.cells #[.int .u8 (f : Int), .int .i32 v] 23) none)); clear g5)
          go_ret2
          rw [E.out, E2.out]
          exact ⟨none, 0, rfl, ownI_nil _ _, H5.out⟩
      · obtain rfl : k = n := by omega
        have hp := H.out.2.1
        rw [← HN.out] at hp
        have HI := upto_end hp
        have E := Lib.hid (show ae xs = 0 by rw [HE.out, HI]; exact lastE_ok hp.2.1)
        have E2 := Lib.hid (show al xs = toI pre by rw [al_ok E.out, HI])
        clear HI hp
        go_wp2
        go_ret2
        rw [E.out, E2.out]
        have hl : (toI pre).length = j := by rw [toI_len, ← H.out.2.2]
        refine ⟨A1, c1, by rw [hl]; rfl, ?_, H.out.1.1⟩
        rw [hl]
        exact H.out.1.2
end Go.Proofs.Ytiblicpaeogihaa
