/- The program: folding a valid expression. -/
import Derived.Test.YtimbiobonigdmaaGreatDoorM13
import Derived.Test.YtimbiobonigdmaaGreatDoorM07
import Derived.Test.YtimbiobonigdmaaGreatDoorM11
set_option linter.unusedVariables false
set_option linter.unusedSimpArgs false
set_option linter.unusedVariables false
set_option linter.unusedSimpArgs false
namespace Go.Proofs.YtimbiobonigdmaaGreatDoor
open Go Go.RowKit L8 L10 L14

theorem name_there {m : Mg} {e : Ex} (h : vOf m e ≠ none) (hk : e.k = 4) : m e.s ≠ none := by
  intro hm
  apply h
  unfold vOf
  rw [valE_eq]
  unfold valO
  rw [if_neg (by omega), if_pos hk]
  unfold rho
  rw [hm]
  rfl
/-- Folding a valid expression. -/
theorem folded_any {b : Nat} {m : Mg} : ∀ e : Ex, allE e = true → ∀ (A : Option Addr) (n c : Nat) (w : World), TrR w A c e.l → e.l.length = n → OKe e → MgR w b m → T10 w → Calls Tryz.prog 26 #[.map (some b), exV e A n c] w (FdR w (fOf m e)) := by
  refine Ex.ind fun e ih ha A n c w R hn ok M T => ?_
  have hf : fOf m e = fldO (vOf m e) (litK e.k e.o e.t (tau m e.s)) (.mk e.k e.o e.t e.n e.s (L14.foldL (rho m) (sig m) (tau m) e.l)) := foldE_eq _ _ _ e
  rcases fld_ways (vOf m e) (litK e.k e.o e.t (tau m e.s)) (.mk e.k e.o e.t e.n e.s (L14.foldL (rho m) (sig m) (tau m) e.l)) with ⟨v, h1, h2, h3⟩ | ⟨h1, h2⟩
  · rw [hf, h3]
    exact folded_lit e A n c w R hn ok ha M T v h1 (name_there (by rw [h1]; simp)) h2
  · rw [hf, h1]
    refine folded_parts e A n c w R hn ok ha M T name_there h2 fun j hj B k d X RX hk MX TX => ?_
    obtain ⟨_, _, _, _, _, _, oky, _⟩ := R.at (j := j) (by omega)
    exact ih _ (getD_memE (by omega)) (all_part ha (getD_memE (by omega))) B k d X RX hk oky MX TX
end Go.Proofs.YtimbiobonigdmaaGreatDoor
/- The program: sets of names; meanings entered. -/
set_option linter.unusedVariables false
set_option linter.unusedSimpArgs false
namespace Go.Proofs.YtimbiobonigdmaaGreatDoor
open Go Go.RowKit L8 L10 L14

/-- Block b is a set of these names. -/
def NmR (w : World) (b : Nat) (M : Bs → Bool) : Prop := ∃ l, MapL w b l ∧ ∀ s, M s = (getL l s).isSome
theorem NmR.new (w : World) : NmR (w.alloc (.map #[] 0)) w.heap.size (fun _ => false) := ⟨[], MapL.new w, fun _ => rfl⟩
theorem NmR.lt {w : World} {b : Nat} {M : Bs → Bool} (h : NmR w b M) : b < w.heap.size := by
  obtain ⟨l, h, _⟩ := h; exact h.lt
theorem NmR.kept {w w' : World} {b : Nat} {M : Bs → Bool} {row : Option Nat} (h : NmR w b M) (g : w.grownBy w' row) (hb : some b ≠ row) : NmR w' b M := by
  obtain ⟨l, h1, h2⟩ := h; exact ⟨l, h1.kept g hb, h2⟩
theorem NmR.below {w w' : World} {b : Nat} {M : Bs → Bool} (h : NmR w b M) (g : Below w.heap.size w w') : NmR w' b M := by
  obtain ⟨l, h1, h2⟩ := h; exact ⟨l, h1.below g, h2⟩
theorem NmR.km {w w' : World} {b : Nat} {M : Bs → Bool} (h : NmR w b M) (g : w.grownBy w' (some b)) : Km w w' := by
  obtain ⟨l, h1, h2⟩ := h; exact Km.map h1 g
theorem set_put {l : List (Bs × Value)} {M : Bs → Bool} (h : ∀ s, M s = (getL l s).isSome) (t : Bs) (v : Value) : ∀ s, (M s || decide (s = t)) = (getL (putL l t v) s).isSome := fun s => by
  rw [get_put, h s]
  by_cases e : s = t
  · rw [if_pos e, decide_eq_true e]; simp
  · rw [if_neg e, decide_eq_false e]; simp
/-- The names of a list added. -/
def addM (M : Bs → Bool) (ns : List Bs) : Bs → Bool := fun s => M s || decide (s ∈ ns)
theorem addM_nil (M : Bs → Bool) : addM M [] = M := by funext s; unfold addM; simp
theorem addM_snoc (M : Bs → Bool) (ns : List Bs) (t : Bs) : (fun s => addM M ns s || decide (s = t)) = addM M (ns ++ [t]) := by
  funext s
  unfold addM
  by_cases h1 : s ∈ ns <;> by_cases h2 : s = t <;> simp [h1, h2]
theorem take_oneB {l : List Bs} {i : Nat} (h : i < l.length) : l.take (i + 1) = l.take i ++ [l.getD i []] := by
  rw [List.take_succ_eq_append_getElem h]
  simp [h]
theorem nm_small {e : Ex} (h : mayE e = true) : szE e ≤ 256 := (may_parts.1 h).2.1
/-- What add leaves. -/
def AddR (w : World) (b : Nat) (M : Bs → Bool) (e : Ending) (w' : World) : Prop := e = .returned (.tuple #[]) ∧ NmR w' b M ∧ w.grownBy w' (some b)
set_option maxRecDepth 100000 in
set_option maxHeartbeats 4000000 in
theorem add_any {b : Nat} {M : Bs → Bool} (e : Ex) (A : Option Addr) (n c : Nat) (w : World) (R : TrR w A c e.l) (hn : e.l.length = n) (ok : OKe e) (hm : mayE e = true) (N : NmR w b M) : Calls Tryz.prog 71 #[.map (some b), exV e A n c] w (AddR w b (addM M (nmE e))) := by
  have hb : Below w.heap.size w (w.alloc (.cells (exC e A n c) 27)) := bal (b0 w) _
  have CN := Lib.hid (PNamesX_any e A n c _ (R.keep hb) hn ok (by have := nm_small hm; omega))
  have hlen : (nmE e).length ≤ 256 := by have := nm_len e; have := nm_small hm; omega
  have HP := Lib.hid (box6 (boxS_new w 27 (exC e A n c)))
  have HN := Lib.hid N
  have HB := Lib.hid hb
  clear R hn ok hm N hb
  dsimp only [exV, exC] at *
  generalize strOf e.s = S at *
  generalize nmE e = ns at *
  obtain ⟨k, hk⟩ : ∃ k, ns.length = k := ⟨_, rfl⟩
  rw [hk] at CN hlen
  have HK := Lib.hid hk
  clear hk
  obtain ⟨p0, p1, p2, p3, p4, p5⟩ := HP.out
  go_enter Tryz.func71, Tryz.ntmps71
  go_wp2_with (go_at_call 91; (with_reducible refine (CN.out).mono ?_); rintro e1 w1 ⟨B, d, rfl, ss, bb⟩; have HS := Lib.hid ss; have H1 := Lib.hid (blw HB.out bb); clear ss bb)
  go_loopw [9] (fun i wr => ∃ j : Nat, j ≤ k ∧ i = .int .i64 (j : Int) ∧ Hid (SS wr B d ns ∧ NmR wr b (addM M (ns.take j)) ∧ w.grownBy wr (some b))) (fun i _ => k - (intOf i).toNat)
  case atStart => exact ⟨0, Nat.zero_le _, rfl, Lib.hid ⟨HS.out, by rw [List.take_zero, addM_nil]; exact HN.out.below H1.out, g_any (g_of_below H1.out) _⟩⟩
  case round =>
    obtain ⟨j, hj, rfl, H⟩ := hrel
    have hj0 : (0 : Int) ≤ (j : Int) := by omega
    by_cases hlt : (j : Int) < (k : Int)
    · obtain ⟨ad, rfl, hc⟩ := H.out.1.rd j (by have := HK.out; omega)
      obtain ⟨l, ML, hl⟩ := H.out.2.1
      obtain ⟨w2, hrun, ML2, g2⟩ := run_put (P := Tryz.prog) (t := 99) Tryz.underlying99 Tryz.underlying9 ML (ns.getD j []) (.bool true)
      have H2 := Lib.hid (show SS w2 (some ad) d ns ∧ NmR w2 b (addM M (ns.take (j + 1))) ∧ w.grownBy w2 (some b) from ⟨H.out.1.km (Km.map ML g2), ⟨_, ML2, by rw [take_oneB (by have := HK.out; omega), ← addM_snoc]; exact set_put hl _ _⟩, g_trans H.out.2.2 g2⟩)
      clear ML hl ML2 g2
      generalize strOf (ns.getD j []) = T at *
      go_wp2
      go_roundw
      case rel => exact ⟨j + 1, by omega, by go_num, H2⟩
      case measure => simp [intOf]; omega
    · obtain rfl : j = k := by omega
      have H2 := Lib.hid (show NmR wr b (addM M ns) ∧ w.grownBy wr (some b) from ⟨by have := H.out.2.1; rwa [← HK.out, List.take_length] at this, H.out.2.2⟩)
      go_wp2
      go_end0
      exact ⟨rfl, H2.out.1, H2.out.2⟩
end Go.Proofs.YtimbiobonigdmaaGreatDoor
/- The program: names taken out of a set. -/
set_option linter.unusedVariables false
set_option linter.unusedSimpArgs false
namespace Go.Proofs.YtimbiobonigdmaaGreatDoor
open Go Go.RowKit L8 L10 L14

def delsL (l : List (Bs × Value)) (ns : List Bs) : List (Bs × Value) := ns.foldl delL l
theorem delsL_snoc (l : List (Bs × Value)) (ns : List Bs) (t : Bs) : delsL l (ns ++ [t]) = delL (delsL l ns) t := by unfold delsL; rw [List.foldl_append]; rfl
theorem dels_nodup : ∀ (ns : List Bs) (l : List (Bs × Value)), (keysL l).Nodup → (keysL (delsL l ns)).Nodup
  | [], _, h => h
  | t :: r, l, h => dels_nodup r _ (nodup_del t l h)
theorem get_dels (s : Bs) : ∀ (ns : List Bs) (l : List (Bs × Value)), (keysL l).Nodup → getL (delsL l ns) s = if s ∈ ns then none else getL l s
  | [], l, _ => by simp [delsL]
  | t :: r, l, h => by
    show getL (delsL (delL l t) r) s = _
    rw [get_dels s r _ (nodup_del t l h), get_del t s l h]
    by_cases h1 : s ∈ r
    · rw [if_pos h1, if_pos (List.mem_cons_of_mem _ h1)]
    · rw [if_neg h1]
      by_cases h2 : s = t
      · rw [if_pos h2, if_pos (by rw [h2]; exact List.mem_cons_self ..)]
      · rw [if_neg h2, if_neg (by simp [h1, h2])]
theorem len_dels : ∀ (ns : List Bs) (l : List (Bs × Value)), (keysL l).Nodup → (delsL l ns).length ≤ l.length ∧ ((delsL l ns).length < l.length ↔ ∃ s ∈ ns, (getL l s).isSome = true)
  | [], l, _ => by simp [delsL]
  | t :: r, l, h => by
    have ih := len_dels r (delL l t) (nodup_del t l h)
    have hd := len_del t l
    have e : delsL l (t :: r) = delsL (delL l t) r := rfl
    rw [e]
    by_cases ht : (getL l t).isSome = true
    · rw [if_pos ht] at hd
      exact ⟨by omega, fun _ => ⟨t, List.mem_cons_self .., ht⟩, fun _ => by omega⟩
    · rw [if_neg ht] at hd
      refine ⟨by omega, fun hl => ?_, fun ⟨s, hs, h2⟩ => ?_⟩
      · obtain ⟨s, hs, h2⟩ := ih.2.1 (by omega)
        rw [get_del t s l h] at h2
        by_cases e : s = t
        · rw [if_pos e] at h2; cases h2
        · rw [if_neg e] at h2; exact ⟨s, List.mem_cons_of_mem _ hs, h2⟩
      · have hne : s ≠ t := fun e => ht (by rw [← e]; exact h2)
        have : (delsL (delL l t) r).length < (delL l t).length := ih.2.2 ⟨s, (List.mem_cons.1 hs).resolve_left hne, by rw [get_del t s l h, if_neg hne]; exact h2⟩
        omega
/-- The names of a list taken out. -/
def subM (M : Bs → Bool) (ns : List Bs) : Bs → Bool := fun s => M s && !decide (s ∈ ns)
theorem set_dels {l : List (Bs × Value)} {M : Bs → Bool} (hn : (keysL l).Nodup) (h : ∀ s, M s = (getL l s).isSome) (ns : List Bs) : ∀ s, subM M ns s = (getL (delsL l ns) s).isSome := fun s => by
  rw [get_dels s ns l hn]
  unfold subM
  rw [h s]
  by_cases e : s ∈ ns
  · rw [if_pos e, decide_eq_true e]; simp
  · rw [if_neg e, decide_eq_false e]; simp
theorem any_dels {l : List (Bs × Value)} {M : Bs → Bool} (hn : (keysL l).Nodup) (h : ∀ s, M s = (getL l s).isSome) (ns : List Bs) : decide ((delsL l ns).length < l.length) = ns.any M := by
  rw [Bool.eq_iff_iff, decide_eq_true_eq, List.any_eq_true]
  rw [(len_dels ns l hn).2]
  constructor
  · rintro ⟨s, h1, h2⟩; exact ⟨s, h1, by rw [h s]; exact h2⟩
  · rintro ⟨s, h1, h2⟩; exact ⟨s, h1, by rw [← h s]; exact h2⟩
/-- What remove leaves. -/
def RmvR (w : World) (b : Nat) (M : Bs → Bool) (r : Bool) (e : Ending) (w' : World) : Prop := e = .returned (.bool r) ∧ NmR w' b M ∧ w.grownBy w' (some b)
set_option maxRecDepth 100000 in
set_option maxHeartbeats 4000000 in
theorem remove_any {b : Nat} {M : Bs → Bool} (ns : List Bs) (A : Option Addr) (k c : Nat) (w : World) (R : SS w A c ns) (hk : ns.length = k) (N : NmR w b M) : Calls Tryz.prog 73 #[.map (some b), .slice A k c] w (RmvR w b (subM M ns) (ns.any M)) := by
  obtain ⟨l, ML, hl⟩ := N
  have hlen : ∀ (X : World) (l' : List (Bs × Value)), MapL X b l' → ∀ ty, (Builtin.len_ #[99] ty #[.map (some b)]).run Tryz.prog X = .ok (.int .i64 l'.length) X := fun X l' h ty => run_mlen Tryz.underlying99 h
  have HL := Lib.hid hlen
  have h0 := hlen w l ML
  have HM := Lib.hid ML
  have HA := Lib.hid (any_dels ML.nodup hl ns)
  have HS := Lib.hid (set_dels ML.nodup hl ns)
  have HK := Lib.hid hk
  have hmx : k ≤ maxLen := by have := R.le; have := R.mx; omega
  unfold maxLen at hmx
  have HR := Lib.hid R
  have HU := Lib.hid hlen
  clear hlen ML hl hk R
  generalize ns.any M = r at *
  go_enter Tryz.func73, Tryz.ntmps73
  go_wp2
  clear h0
  go_loopw [12] (fun i wr => ∃ j : Nat, j ≤ k ∧ i = .int .i64 (j : Int) ∧ Hid (SS wr A c ns ∧ MapL wr b (delsL l (ns.take j)) ∧ w.grownBy wr (some b))) (fun i _ => k - (intOf i).toNat)
  case atStart => exact ⟨0, Nat.zero_le _, rfl, Lib.hid ⟨HR.out, by rw [List.take_zero]; exact HM.out, g_refl w _⟩⟩
  case round =>
    obtain ⟨j, hj, rfl, H⟩ := hrel
    have hj0 : (0 : Int) ≤ (j : Int) := by omega
    by_cases hlt : (j : Int) < (k : Int)
    · obtain ⟨ad, rfl, hc⟩ := H.out.1.rd j (by have := HK.out; omega)
      obtain ⟨w2, hrun, ML2, g2⟩ := run_del (P := Tryz.prog) (t := 99) (st := 9) Tryz.underlying99 Tryz.underlying9 H.out.2.1 (ns.getD j [])
      have H2 := Lib.hid (show SS w2 (some ad) c ns ∧ MapL w2 b (delsL l (ns.take (j + 1))) ∧ w.grownBy w2 (some b) from ⟨H.out.1.km (Km.map H.out.2.1 g2), by rw [take_oneB (by have := HK.out; omega), delsL_snoc]; exact ML2, g_trans H.out.2.2 g2⟩)
      clear ML2 g2
      generalize strOf (ns.getD j []) = T at *
      go_wp2
      go_roundw
      case rel => exact ⟨j + 1, by omega, by go_num, H2⟩
      case measure => simp [intOf]; omega
    · obtain rfl : j = k := by omega
      have h1 := HU.out wr _ H.out.2.1
      have H2 := Lib.hid (show NmR wr b (subM M ns) ∧ decide ((delsL l (ns.take j)).length < l.length) = r ∧ w.grownBy wr (some b) from ⟨⟨_, by have := H.out.2.1; rwa [← HK.out, List.take_length] at this, HS.out⟩, by rw [← HK.out, List.take_length]; exact HA.out, H.out.2.2⟩)
      generalize (delsL l (ns.take j)).length = q at *
      generalize l.length = p at *
      have h2 : decide ((q : Int) < (p : Int)) = r := by rw [← H2.out.2.1]; exact decide_eq_decide.2 (by omega)
      go_wp2
      go_ret
      exact ⟨ret_b (by first | rfl | (rw [← H2.out.2.1])), H2.out.1, H2.out.2.2⟩
end Go.Proofs.YtimbiobonigdmaaGreatDoor
/- The program: the names of a specification get their meaning. -/
set_option linter.unusedVariables false
set_option linter.unusedSimpArgs false
namespace Go.Proofs.YtimbiobonigdmaaGreatDoor
open Go Go.RowKit L8 L10 L14

theorem putM_nil (m : Mg) (y : Sp × Option Int) : putM m [] y = m := by funext s; unfold putM; simp
theorem putM_snoc (m : Mg) (ns : List Bs) (t : Bs) (y : Sp × Option Int) : putM (putM m ns y) [t] y = putM m (ns ++ [t]) y := by
  funext s
  unfold putM
  by_cases h1 : s ∈ ns <;> by_cases h2 : s = t <;> simp [h1, h2]
/-- What enter leaves. -/
def EntR (w : World) (b : Nat) (m : Mg) (e : Ending) (w' : World) : Prop := e = .returned (.tuple #[]) ∧ MgR w' b m ∧ w.grownBy w' (some b)
/-- On the way through the names: the meaning's box. -/
structure EnS (w X : World) (b q : Nat) (p : Addr) (v : Option Int) : Prop where
  gr : w.grownBy X (some b)
  box : BoxS X q 83 #[.pointer (some p), .int .i32 (v.getD 0), .bool v.isSome]
theorem EnS.km {w X Y : World} {b q : Nat} {p : Addr} {v : Option Int} (h : EnS w X b q p v) (hb : b ≠ q) (g : X.grownBy Y (some b)) : EnS w Y b q p v := ⟨g_trans h.gr g, h.box.kept g (fun e => hb (by injection e with e; exact e.symm))⟩
theorem mg_ne {w : World} {b q : Nat} {m : Mg} {t : TypeId} {cs : Array Value} (h : MgR w b m) (k : BoxS w q t cs) : b ≠ q := by
  rintro rfl
  obtain ⟨l, ⟨es, clock, hb, _⟩, _⟩ := h
  unfold BoxS at k
  rw [hb] at k
  cases k
/-- The loop over the names, as a step. -/
theorem ent_step {w X : World} {b q j : Nat} {p : Addr} {x : Sp} {m : Mg} {v : Option Int} {A : Option Addr} {c : Nat} (h : EnS w X b q p v) (M : MgR X b (putM m (x.ns.take j) (x, v))) (S : SpW X p x) (R : SS X A c x.ns) (hv : ∀ u, v = some u → inW u) (hj : j < x.ns.length) :
    ∃ Y, (Instr.mapUpdate 59 (.map (some b)) (.string (strOf (x.ns.getD j []))) (.agg #[.pointer (some p), .int .i32 (v.getD 0), .bool v.isSome])).run Tryz.prog X = .ok () Y ∧ EnS w Y b q p v ∧ MgR Y b (putM m (x.ns.take (j + 1)) (x, v)) ∧ SpW Y p x ∧ SS Y A c x.ns := by
  have hne := mg_ne M h.box
  obtain ⟨l, ML, hl⟩ := M
  obtain ⟨Y, hr, ML2, g⟩ := run_put (P := Tryz.prog) (t := 59) Tryz.underlying59 Tryz.underlying9 ML (x.ns.getD j []) (lkV (some p) v)
  have km := Km.map ML g
  exact ⟨Y, hr, h.km hne g, by rw [take_oneB hj, ← putM_snoc]; exact MgR.put ML hl S hv ML2 g, S.km km, R.km km⟩
end Go.Proofs.YtimbiobonigdmaaGreatDoor
/- The program: enter. -/
set_option linter.unusedVariables false
set_option linter.unusedSimpArgs false
namespace Go.Proofs.YtimbiobonigdmaaGreatDoor
open Go Go.RowKit L8 L10 L14

/-- What is known ahead of the loop. -/
structure EnH (w X : World) (b : Nat) (p : Addr) (x : Sp) (v : Option Int) (m : Mg) (A : Option Addr) (c : Nat) : Prop where
  en : EnS w X b (w.heap.size + 1) p v
  mg : MgR X b m
  sp : SpW X p x
  ss : SS X A c x.ns
theorem en_two {w W : World} {p : Addr} (h : BoxS W (w.heap.size + 1) 83 #[.pointer (some p), .int .i32 0, .bool false]) (u : Int) (z : Bool) : BoxS ((W.setCell ⟨w.heap.size + 1, 1, none⟩ (.int .i32 u)).setCell ⟨w.heap.size + 1, 2, none⟩ (.bool z)) (w.heap.size + 1) 83 #[.pointer (some p), .int .i32 u, .bool z] := by
  have := boxset (boxset h 1 (.int .i32 u)) 2 (.bool z)
  simpa using this
set_option maxRecDepth 100000 in
set_option maxHeartbeats 8000000 in
theorem enter_any {b : Nat} {m : Mg} (p : Addr) (x : Sp) (w : World) (M : MgR w b m) (S : SpW w p x) : Calls Tryz.prog 33 #[.map (some b), .agg #[.pointer (some p), .bool (vald x)]] w (EntR w b (putM m x.ns (entS m x))) := by
  have hmp : p.block < w.heap.size := by obtain ⟨_, _, _, _, _, h⟩ := S; exact g_lt h.c0
  obtain ⟨v, hv⟩ : ∃ v, (if vald x = true then vOf m x.e else none) = v := ⟨_, rfl⟩
  have hent : entS m x = (x, v) := by unfold entS; rw [← hv]; rfl
  rw [hent]
  obtain ⟨A, c, B, d, H⟩ := S.2
  have okx := S.1
  obtain ⟨k, hk⟩ : ∃ k, x.ns.length = k := ⟨_, rfl⟩
  have hmx : k ≤ maxLen := by have := H.ss.le; have := H.ss.mx; omega
  unfold maxLen at hmx
  have b2 : ∀ z : Bool, Below w.heap.size w ((w.alloc (.cells #[.pointer (some p), .bool z] 79)).alloc (.cells #[.pointer (some p), .int .i32 0, .bool false] 83)) := fun z => bal (bal (b0 w) _) _
  have bx : ∀ z : Bool, BoxS ((w.alloc (.cells #[.pointer (some p), .bool z] 79)).alloc (.cells #[.pointer (some p), .int .i32 0, .bool false] 83)) (w.heap.size + 1) 83 #[.pointer (some p), .int .i32 0, .bool false] := fun z => by
    have := boxS_new (w.alloc (.cells #[.pointer (some p), .bool z] 79)) 83 #[.pointer (some p), .int .i32 0, .bool false]
    rwa [World.size_alloc] at this
  have by0 : ∀ z : Bool, BoxS ((w.alloc (.cells #[.pointer (some p), .bool z] 79)).alloc (.cells #[.pointer (some p), .int .i32 0, .bool false] 83)) w.heap.size 79 #[.pointer (some p), .bool z] := fun z => (boxS_new w _ _).alloc _
  have HK := Lib.hid hk
  cases hvd : vald x with
  | false =>
    rw [hvd] at hv
    have hv0 : v = none := hv.symm
    have HX : Hid (EnH w ((w.alloc (.cells #[.pointer (some p), .bool false] 79)).alloc (.cells #[.pointer (some p), .int .i32 0, .bool false] 83)) b p x v m A c) := Lib.hid (by subst hv0; exact ⟨⟨g_any (g_of_below (b2 false)) _, bx false⟩, M.keep (b2 false), S.keep (b2 false), H.ss.keep (b2 false)⟩)
    have HVW := Lib.hid (show ∀ u, v = some u → inW u from fun u e => by rw [hv0] at e; cases e)
    have HC := H.km (.below (b2 false))
    have c5 := HC.c5
    rw [hk] at c5
    clear hv hv0 hent M S H b2 bx by0 hvd okx HC hk
    go_enter Tryz.func33, Tryz.ntmps33
    go_wp2
    clear c5
    generalize (w.alloc (.cells #[.pointer (some p), .bool false] 79)).alloc (.cells #[.pointer (some p), .int .i32 0, .bool false] 83) = X at *
    go_loopw [30] (fun i wr => ∃ j : Nat, j ≤ k ∧ i = .int .i64 (j : Int) ∧ Hid (EnS w wr b (w.heap.size + 1) p v ∧ MgR wr b (putM m (x.ns.take j) (x, v)) ∧ SpW wr p x ∧ SS wr A c x.ns)) (fun i _ => k - (intOf i).toNat)
    case atStart => exact ⟨0, Nat.zero_le _, rfl, Lib.hid ⟨HX.out.en, by rw [List.take_zero, putM_nil]; exact HX.out.mg, HX.out.sp, HX.out.ss⟩⟩
    case round =>
      obtain ⟨j, hj, rfl, H⟩ := hrel
      have hj0 : (0 : Int) ≤ (j : Int) := by omega
      by_cases hlt : (j : Int) < (k : Int)
      · obtain ⟨ad, rfl, hc⟩ := H.out.2.2.2.rd j (by have := HK.out; omega)
        obtain ⟨Y, hrun, h1, h2, h3, h4⟩ := ent_step H.out.1 H.out.2.1 H.out.2.2.1 H.out.2.2.2 HVW.out (j := j) (by have := HK.out; omega)
        have H2 := Lib.hid (And.intro h1 (And.intro h2 (And.intro h3 h4)))
        obtain ⟨⟨q0, q1, q2⟩, -⟩ := box3 H.out.1.box
        clear h1 h2 h3 h4
        generalize strOf (x.ns.getD j []) = T at *
        generalize v.getD 0 = v1 at *
        generalize v.isSome = v2 at *
        go_wp2
        go_roundw
        case rel => exact ⟨j + 1, by omega, by go_num, H2⟩
        case measure => simp [intOf]; omega
      · obtain rfl : j = k := by omega
        have H2 := Lib.hid (show MgR wr b (putM m x.ns (x, v)) ∧ w.grownBy wr (some b) from ⟨by have := H.out.2.1; rwa [← HK.out, List.take_length] at this, H.out.1.gr⟩)
        go_wp2
        go_end0
        exact ⟨rfl, H2.out.1, H2.out.2⟩
  | true =>
    rw [hvd, if_pos rfl] at hv
    have hme : mayE x.e = true := by
      unfold vald at hvd
      rw [Bool.and_eq_true] at hvd
      exact hvd.2
    have HVW := Lib.hid (show ∀ u, v = some u → inW u from fun u e => val_in M.inM x.e okx.e H.tr u (by rw [hv]; exact e))
    have CV := value_any x.e (may_parts.1 hme).1 B _ d _ (H.tr.keep (b2 true)) rfl okx.e (M.keep (b2 true))
    rw [hv] at CV
    unfold VlR apR at CV
    have HC := H.km (.below (b2 true))
    obtain ⟨x0, x1, x2, x3, x4, x5⟩ := HC.ex
    dsimp only at x0 x1 x2 x3 x4 x5
    simp only [Nat.add_assoc, Nat.reduceAdd] at x1 x2 x3 x4 x5
    have HF : Hid (∀ W3, Below ((w.alloc (.cells #[.pointer (some p), .bool true] 79)).alloc (.cells #[.pointer (some p), .int .i32 0, .bool false] 83)).heap.size ((w.alloc (.cells #[.pointer (some p), .bool true] 79)).alloc (.cells #[.pointer (some p), .int .i32 0, .bool false] 83)) W3 →
        W3.frozen? ⟨w.heap.size + 1, 1, none⟩ = false ∧ W3.frozen? ⟨w.heap.size + 1, 2, none⟩ = false ∧ (W3.cell? ⟨w.heap.size + 1, 0, none⟩ = some (.pointer (some p)) ∧ W3.cell? ⟨w.heap.size + 1, 1, none⟩ = some (.int .i32 0) ∧ W3.cell? ⟨w.heap.size + 1, 2, none⟩ = some (.bool false)) ∧ (W3.cell? ⟨w.heap.size, 0, none⟩ = some (.pointer (some p)) ∧ W3.cell? ⟨w.heap.size, 1, none⟩ = some (.bool true)) ∧
        (((W3.setCell ⟨w.heap.size + 1, 1, none⟩ (.int .i32 (v.getD 0))).setCell ⟨w.heap.size + 1, 2, none⟩ (.bool v.isSome)).cell? ⟨p.block, p.off + 5, none⟩ = some (.slice A k c)) ∧
        EnH w ((W3.setCell ⟨w.heap.size + 1, 1, none⟩ (.int .i32 (v.getD 0))).setCell ⟨w.heap.size + 1, 2, none⟩ (.bool v.isSome)) b p x v m A c) := Lib.hid fun W3 b3 => by
      have bb := blw (b2 true) b3
      have bX := bset (bset bb (B := w.heap.size + 1) (j := 1) (by omega) (.int .i32 (v.getD 0))) (B := w.heap.size + 1) (j := 2) (by omega) (.bool v.isSome)
      have k1 := (bx true).below b3
      have k2 := (by0 true).below b3
      have c5 := (H.km (.below bX)).c5
      rw [hk] at c5
      exact ⟨k1.frozen 1, k1.frozen 2, ⟨(k1.cell 0).trans rfl, (k1.cell 1).trans rfl, (k1.cell 2).trans rfl⟩, ⟨(k2.cell 0).trans rfl, (k2.cell 1).trans rfl⟩, c5, ⟨g_any (g_of_below bX) _, en_two k1 _ _⟩, M.keep bX, S.keep bX, H.ss.keep bX⟩
    clear hv hent M S H b2 bx by0 hvd okx HC hk hme
    generalize x.e.l.length = n at *
    dsimp only [exV] at *
    generalize strOf x.e.s = S at *
    have CV := Lib.hid CV
    obtain ⟨v1, hv1⟩ : ∃ v1, v.getD 0 = v1 := ⟨_, rfl⟩
    obtain ⟨v2, hv2⟩ : ∃ v2, v.isSome = v2 := ⟨_, rfl⟩
    rw [hv1, hv2] at CV HF
    have HV := Lib.hid (And.intro hv1 hv2)
    clear hv1 hv2
    go_enter Tryz.func33, Tryz.ntmps33
    go_wp2_with (go_at_call 22; (with_reducible refine (CV.out).mono ?_); rintro e1 w3 ⟨rfl, b3⟩; obtain ⟨f1, f2, ⟨m0, m1, m2⟩, ⟨n0, n1⟩, c5, hx⟩ := HF.out w3 b3; have HX := Lib.hid hx; clear hx b3 HF)
    clear f1 f2 m0 m1 m2 n0 n1 c5
    generalize (w3.setCell ⟨w.heap.size + 1, 1, none⟩ (.int .i32 v1)).setCell ⟨w.heap.size + 1, 2, none⟩ (.bool v2) = X at *
    go_loopw [30] (fun i wr => ∃ j : Nat, j ≤ k ∧ i = .int .i64 (j : Int) ∧ Hid (EnS w wr b (w.heap.size + 1) p v ∧ MgR wr b (putM m (x.ns.take j) (x, v)) ∧ SpW wr p x ∧ SS wr A c x.ns)) (fun i _ => k - (intOf i).toNat)
    case atStart => exact ⟨0, Nat.zero_le _, rfl, Lib.hid ⟨HX.out.en, by rw [List.take_zero, putM_nil]; exact HX.out.mg, HX.out.sp, HX.out.ss⟩⟩
    case round =>
      obtain ⟨j, hj, rfl, H⟩ := hrel
      have hj0 : (0 : Int) ≤ (j : Int) := by omega
      by_cases hlt : (j : Int) < (k : Int)
      · obtain ⟨ad, rfl, hc⟩ := H.out.2.2.2.rd j (by have := HK.out; omega)
        obtain ⟨Y, hrun, h1, h2, h3, h4⟩ := ent_step H.out.1 H.out.2.1 H.out.2.2.1 H.out.2.2.2 HVW.out (j := j) (by have := HK.out; omega)
        have H2 := Lib.hid (And.intro h1 (And.intro h2 (And.intro h3 h4)))
        obtain ⟨⟨q0, q1, q2⟩, -⟩ := box3 H.out.1.box
        clear h1 h2 h3 h4
        generalize strOf (x.ns.getD j []) = T at *
        rw [HV.out.1] at q1 hrun
        rw [HV.out.2] at q2 hrun
        go_wp2
        go_roundw
        case rel => exact ⟨j + 1, by omega, by go_num, H2⟩
        case measure => simp [intOf]; omega
      · obtain rfl : j = k := by omega
        have H2 := Lib.hid (show MgR wr b (putM m x.ns (x, v)) ∧ w.grownBy wr (some b) from ⟨by have := H.out.2.1; rwa [← HK.out, List.take_length] at this, H.out.1.gr⟩)
        go_wp2
        go_end0
        exact ⟨rfl, H2.out.1, H2.out.2⟩
end Go.Proofs.YtimbiobonigdmaaGreatDoor
