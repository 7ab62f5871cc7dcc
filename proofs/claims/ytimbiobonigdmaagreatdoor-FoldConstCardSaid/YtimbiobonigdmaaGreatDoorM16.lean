/- The program: neededFor, walked. -/
import Derived.RangeFuncNested
import Derived.RangeFuncBound
import Derived.RangeFuncCalls
import Derived.RangeFuncLeaves
import Derived.Shelf.Abstract
import Derived.Shelf.RegionOpen
import Derived.OwnWalkIn
import Derived.TacticsInMore
import Derived.LoopNIn
import Derived.LoopIn
import Derived.Maps.AppendAt
import Derived.Test.YtimbiobonigdmaaGreatDoorM15
set_option linter.unusedVariables false
set_option linter.unusedSimpArgs false
set_option linter.unusedVariables false
set_option linter.unusedSimpArgs false
namespace Go.Proofs.YtimbiobonigdmaaGreatDoor
open Go Go.RowKit Go.Shelf L8 L10 L14
attribute [local go_sem] Oper.semAt_some

/-- What neededFor answers. -/
def NdA (w : World) (M : Bs → Bool) (l : List Sp) (e : Ending) (w' : World) : Prop := ∃ A n c F, e = .returned (.slice A n c) ∧ NdR w' A n F ∧ n ≤ c ∧ c ≤ maxLen ∧ F.map (·.2) = need M l.reverse ∧ (∀ y ∈ F, SpW w' y.1 y.2) ∧ (∀ ad, A = some ad → w.heap.size ≤ ad.block ∧ ad.block < w'.heap.size) ∧ Below w.heap.size w w'
theorem km_put {V : World} {D : Nat} {o : Obj} (h : V.heap[D]? = some o) (ho : o.isCells = false) (o' : Obj) : Km V (V.putObj D o') := fun p v hp => (grownBy_putObj' V D o').cell hp (fun e => by
  injection e with e
  unfold World.cell? at hp
  rw [e, h] at hp
  cases o <;> first | cases hp | cases ho)
theorem OwnN.cap {w : World} {B n c : Nat} {A : Option Addr} {l : List Nd} (h : OwnN w B A n c l) : n ≤ c ∧ c ≤ maxLen := by
  rcases h.2 with ⟨hv, h0⟩ | ⟨g, cap, cur, hv, hB, hh, hnc, hm, hcs, hx⟩
  · injection hv with h1 h2 h3
    subst h2 h3
    exact ⟨Nat.le_refl _, by unfold maxLen; omega⟩
  · injection hv with h1 h2 h3
    subst h3
    exact ⟨hnc, hm⟩
theorem nd_end {w V : World} {B n c D : Nat} {M M0 : Bs → Bool} {A : Option Addr} {F : List Nd} {l : List Sp} (h : NfS w V B M A n c F) (hB : w.heap.size ≤ B) (hK : V.heap[D]? = some (.deferred (some []))) (hD : w.heap.size ≤ D) (h1 : F.map (·.2) = need M0 l.reverse) (h2 : ∀ y ∈ F, SpW w y.1 y.2) :
    NdA w M0 l (.returned (.slice A n c)) (V.putObj D (.deferred none)) := by
  have bb : Below w.heap.size w (V.putObj D (.deferred none)) := h.bel.grown (grownBy_putObj' V D (.deferred none)) h.bel.size (fun k e => by injection e with e; omega)
  exact ⟨A, n, c, F, rfl, h.oF.ndR.km (km_put hK rfl _), h.oF.cap.1, h.oF.cap.2, h1, fun y hy => (h2 y hy).keep bb, fun ad e => by
    have := h.oF.lt ad.block (by rw [e]; rfl)
    have e2 : (V.putObj D (.deferred none)).heap.size = V.heap.size := by simp [World.putObj]
    rw [e2]
    exact ⟨by omega, this.2⟩, bb⟩
theorem nd_all {E : Option Addr} {d : Nat} {l : List Sp} {w : World} (S : SpR w E d l) {ys : List Nat} (hy : ∀ i ∈ ys, i < l.length) (M : Bs → Bool) : ∀ y ∈ (runN M (ys.map (ndOf E l))).2, SpW w y.1 y.2 := by
  intro y h
  have h1 := run_sub M _ y h
  obtain ⟨i, hi, rfl⟩ := List.mem_map.1 h1
  obtain ⟨ad, rfl, hs⟩ := S.rd i (hy i hi)
  exact hs
theorem dn_mem {x n : Nat} (h : x ∈ dn n) : x < n := by
  unfold dn at h
  rw [List.mem_reverse, List.mem_range] at h
  exact h
theorem hit_none {M : Bs → Bool} (h : ∀ s, M s = false) (x : Sp) : ¬ hitS M x = true := by
  unfold hitS
  rw [List.any_eq_true]
  rintro ⟨s, _, hs⟩
  rw [h s] at hs; cases hs
set_option maxRecDepth 100000 in
set_option maxHeartbeats 16000000 in
theorem needed_any (e : Ex) (A : Option Addr) (n c : Nat) (E : Option Addr) (k d : Nat) (l : List Sp) (w : World) (R : TrR w A c e.l) (hn : e.l.length = n) (ok : OKe e) (hm : mayE e = true) (S : SpR w E d l) (hk : l.length = k) (hk6 : k ≤ 1000000) (T : T10 w) :
    Calls Tryz.prog 32 #[exV e A n c, .slice E k d] w (NdA w (addM (fun _ => false) (nmE e)) l) := by
  have CA : ∀ X, Below w.heap.size w X → NmR X (w.heap.size + 1 + 1) (fun _ => false) → Calls Tryz.prog 71 #[.map (some (w.heap.size + 1 + 1)), exV e A n c] X (AddR X (w.heap.size + 1 + 1) (addM (fun _ => false) (nmE e))) := fun X bX N => add_any e A n c X (R.keep bX) hn ok hm N
  obtain ⟨M0, hM0⟩ : ∃ M0, addM (fun _ => false) (nmE e) = M0 := ⟨_, rfl⟩
  rw [hM0] at CA ⊢
  have HP := box6 (boxS_new w 27 (exC e A n c))
  have HS := Lib.hid S
  have HT := Lib.hid T
  have hdk : k ≤ d := by have := S.le; omega
  have hdm : d ≤ maxLen := S.mx
  clear R hn ok hm hM0 S T
  dsimp only [exV, exC] at *
  generalize strOf e.s = SE at *
  have HV : Hid (Below w.heap.size w ((((w.alloc (.cells #[.int .u8 (e.k : Int), .int .u8 (e.o : Int), .int .u8 (e.t : Int), .int .i32 e.n, .string SE, .slice A n c] 27)).alloc (.cells #[.slice none 0 0] 76)).alloc (.map #[] 0)).alloc (.cells #[.map (some (w.heap.size + 1 + 1))] 99)) ∧
      Boxed ((((w.alloc (.cells #[.int .u8 (e.k : Int), .int .u8 (e.o : Int), .int .u8 (e.t : Int), .int .i32 e.n, .string SE, .slice A n c] 27)).alloc (.cells #[.slice none 0 0] 76)).alloc (.map #[] 0)).alloc (.cells #[.map (some (w.heap.size + 1 + 1))] 99)) (w.heap.size + 1) 76 (.slice none 0 0) ∧
      Boxed ((((w.alloc (.cells #[.int .u8 (e.k : Int), .int .u8 (e.o : Int), .int .u8 (e.t : Int), .int .i32 e.n, .string SE, .slice A n c] 27)).alloc (.cells #[.slice none 0 0] 76)).alloc (.map #[] 0)).alloc (.cells #[.map (some (w.heap.size + 1 + 1))] 99)) (w.heap.size + 1 + 1 + 1) 99 (.map (some (w.heap.size + 1 + 1))) ∧
      NmR ((((w.alloc (.cells #[.int .u8 (e.k : Int), .int .u8 (e.o : Int), .int .u8 (e.t : Int), .int .i32 e.n, .string SE, .slice A n c] 27)).alloc (.cells #[.slice none 0 0] 76)).alloc (.map #[] 0)).alloc (.cells #[.map (some (w.heap.size + 1 + 1))] 99)) (w.heap.size + 1 + 1) (fun _ => false)) := Lib.hid (by
    refine ⟨bal (bal (bal (bal (b0 w) _) _) _) _, ?_, ?_, ?_⟩
    · have := ((Boxed.new (w.alloc (.cells #[.int .u8 (e.k : Int), .int .u8 (e.o : Int), .int .u8 (e.t : Int), .int .i32 e.n, .string SE, .slice A n c] 27)) 76 (.slice none 0 0)).alloc (.map #[] 0)).alloc (.cells #[.map (some (w.heap.size + 1 + 1))] 99)
      simpa only [World.size_alloc] using this
    · have := Boxed.new (((w.alloc (.cells #[.int .u8 (e.k : Int), .int .u8 (e.o : Int), .int .u8 (e.t : Int), .int .i32 e.n, .string SE, .slice A n c] 27)).alloc (.cells #[.slice none 0 0] 76)).alloc (.map #[] 0)) 99 (.map (some (w.heap.size + 1 + 1)))
      simpa only [World.size_alloc] using this
    · have := (NmR.new ((w.alloc (.cells #[.int .u8 (e.k : Int), .int .u8 (e.o : Int), .int .u8 (e.t : Int), .int .i32 e.n, .string SE, .slice A n c] 27)).alloc (.cells #[.slice none 0 0] 76))).below (bal (b0 _) (.cells #[.map (some (w.heap.size + 1 + 1))] 99))
      simpa only [World.size_alloc] using this)
  have C1 := Lib.hid (CA _ HV.out.1 HV.out.2.2.2)
  obtain ⟨p0, p1, p2, p3, p4, p5⟩ := HP
  clear CA
  have hmm := @run_makeMap Tryz.prog
  refine (callsIn_wide (n := 2)).1 ?_
  refine callsIn_of_wp_marks Tryz.func32 rfl trivial ?_ rfl
  simp only [Tryz.ntmps32, List.size_toArray, List.length_cons, List.length_nil, Nat.reduceAdd, Nat.reduceSub, Array.replicate_succ, Array.replicate_zero, List.push_toArray, List.append_toArray, List.nil_append, List.cons_append]
  gi_wp2
  refine wpIn_scope ?_
  gi_wp2_with (refine ⟨trivial, ?_⟩; gi_at_call 71; refine (callsIn_wide.2 C1.out).mono ?_; rintro e1 w1 ⟨rfl, nm, gr⟩; have H1 := Lib.hid (show NfS w w1 w1.heap.size M0 none 0 0 [] from ⟨HV.out.1.grown gr HV.out.1.size (fun k e => by injection e with e; omega), HV.out.2.1.kept gr (fun e => by injection e with e; omega), OwnN.nil _ _, HV.out.2.2.1.kept gr (fun e => by injection e with e; omega), nm, Nat.le_refl _⟩); have hsz : w.heap.size + 4 ≤ w1.heap.size := by have := gr.size; simp only [World.size_alloc] at this; omega)
  clear nm gr p0 p1 p2 p3 p4 p5
  refine wpIn_label ?_
  gi_wp2_with (refine ⟨trivial, ?_⟩; gi_at_call 72; refine (outwards_in _ _ _ _ _).mono ?_; rintro e1 w2 ⟨rfl, rfl⟩)
  obtain ⟨W0, hW0⟩ : ∃ W0, w1.alloc (.cells #[.slice E k d] 28) = W0 := ⟨_, rfl⟩
  have bQ := Boxed.new w1 28 (.slice E k d)
  have h1 := H1.out.keep (bal (b0 w1) (.cells #[.slice E k d] 28))
  have h0 : NfS w (w1.alloc (.cells #[.slice E k d] 28)) (w1.heap.size + 1) M0 none 0 0 [] := ⟨h1.bel, h1.bF, OwnN.nil _ _, h1.bM, h1.nm, by rw [World.size_alloc]; exact Nat.le_refl _⟩
  clear h1
  have hs0 : (w1.alloc (.cells #[.slice E k d] 28)).heap.size = w1.heap.size + 1 := World.size_alloc _ _
  rw [hW0] at bQ h0 hs0 ⊢
  clear hW0
  obtain ⟨q, hq⟩ : ∃ q, w1.heap.size = q := ⟨_, rfl⟩
  rw [hq] at bQ h0 hs0 hsz ⊢
  have hA : 0 < k → ∃ ad, E = some ad := fun h => by
    obtain ⟨ad, e1, _⟩ := HS.out.rd 0 (by omega)
    exact ⟨ad, e1⟩
  clear HV H1 hq hmm
  refine range_soft (own := fun _ => False) (fun _ h => h.elim) (gf := 92) (lb := #[.pointer (some ⟨q, 0, none⟩)]) rfl (enters_of Tryz.func92 (by kernel_rfl) rfl)
    (out_items hA hdk hdm bQ) kpQ_t ?kpb (Below.refl _ _) (fun _ => rfl)
    (IN w (q + 1) M0 E l) (IS w (q + 1) M0 E l) (in_abd (by omega) (fun r h => by rcases h with h | h; exact h.elim; omega)) (fun c => is_abd (by omega) (fun r h => by rcases h with h | h; exact h.elim; omega) c)
    ⟨none, 0, 0, h0⟩
    (fun x a' V => a' = { tmps := #[.agg #[.int .u8 (e.k : Int), .int .u8 (e.o : Int), .int .u8 (e.t : Int), .int .i32 e.n, .string SE, .slice A n c], .slice E k d, .pointer (some ⟨w.heap.size, 0, none⟩), undef, .slice none 0 0, .pointer (some ⟨w.heap.size + 1, 0, none⟩), .pointer (some ⟨w.heap.size + 1 + 1 + 1, 0, none⟩), .pointer (some ((E.getD ⟨0, 0, none⟩).add (x * 16))), undef, .map (some (w.heap.size + 1 + 1)), .map (some (w.heap.size + 1 + 1)), .agg #[.int .u8 (e.k : Int), .int .u8 (e.o : Int), .int .u8 (e.t : Int), .int .i32 e.n, .string SE, .slice A n c], .tuple #[], .slice E k d, .func (.func 92) #[] #[.pointer (some ⟨q, 0, none⟩)], .pointer (some ((E.getD ⟨0, 0, none⟩).add (x * 16))), undef, undef, undef, undef, undef, undef, undef, undef, undef, undef, undef, undef, undef, undef, undef, undef, undef, undef, undef, undef, undef, undef, undef, undef, undef, undef, undef, undef, undef, undef, undef, undef, undef, undef, undef, undef, undef, undef], defers := [] })
    ?ax ?assign ?body ?done ?stop
  case kpb =>
    intro V o o' hl ho
    exact World.putObj_heap_other (by omega)
  case ax => exact fun _ _ _ _ _ h _ _ => h
  case assign =>
    rintro l2 pre x V K hI hK
    unfold encO
    gi_wp2
    exact hK _ _ (KeepsFrom.refl _ _) rfl hI rfl
  case body =>
    rintro l2 pre x a' V ⟨A1, n1, c1, H⟩ rfl hsp
    have hx : x < k := dn_mem (hsp.subset (by simp))
    obtain ⟨ad, rfl, hSp⟩ := HS.out.rd x (by omega)
    dsimp only [Option.getD]
    obtain ⟨M, F, hMF⟩ : ∃ M F, runN M0 (pre.map (ndOf (some ad) l)) = (M, F) := ⟨_, _, rfl⟩
    have hnx : runN M0 ((pre ++ [x]).map (ndOf (some ad) l)) = stN (M, F) (ad.add (x * 16), l.getD x sp0) := by
      rw [List.map_append, List.map_cons, List.map_nil, runN_snoc, hMF]; rfl
    rw [hMF] at H
    dsimp only at H
    have HIN := Lib.hid (show ∀ V' A' n' c', NfS w V' (q + 1) (stN (M, F) (ad.add (x * 16), l.getD x sp0)).1 A' n' c' (stN (M, F) (ad.add (x * 16), l.getD x sp0)).2 → IN w (q + 1) M0 (some ad) l (pre ++ [x]) V' from fun V' A' n' c' h => ⟨A', n', c', by rw [hnx]; exact h⟩)
    have HSW := Lib.hid hSp
    have HSV := Lib.hid (hSp.keep H.bel)
    have hB : w.heap.size + 4 ≤ q + 1 := by omega
    have hq4 : w.heap.size + 4 ≤ q := hsz
    have hn16 : n1 ≤ 1000000 := by
      have h1 := H.oF.len
      have h2 := run_len M0 (pre.map (ndOf (some ad) l))
      rw [hMF] at h2
      have h3 := hsp.length_le
      rw [dn_len, List.length_append] at h3
      rw [List.length_map] at h2
      dsimp only at h2
      omega
    have HZ := Lib.hid (show q + 1 ≤ V.heap.size from H.sz)
    generalize ad.add (x * 16) = p at *
    generalize l.getD x sp0 = sx at *
    obtain ⟨lm, ML, hlm⟩ := H.nm
    have hlen := fun ty => run_mlen (P := Tryz.prog) (ty := ty) Tryz.underlying99 ML
    have cM := H.bM.cell
    have HH := Lib.hid H
    have HMF := Lib.hid hnx
    clear hMF hsp hSp H ML hA bQ h0 hnx
    by_cases h0 : lm.length = 0
    · have hM : ∀ s, M s = false := fun s => by rw [hlm s, len_zero.1 h0 s]; rfl
      have hst := st_no (F := F) (y := (p, sx)) (hit_none hM sx)
      rw [hst] at HIN HMF
      rw [h0] at hlen
      have HF := Lib.hid (show IS w (q + 1) M0 (some ad) l (.exit 0) (pre ++ [x]) V from ⟨rfl, HIN.out V A1 n1 c1 HH.out, by rw [HMF.out]; exact hM⟩)
      clear hM hst HIN HMF HH hlm h0
      gi_wp2
      exact ⟨⟨KeepsFrom.refl _ _, rfl⟩, HF.out⟩
    have q0 : ((lm.length : Int) == 0) = false := by rw [beq_eq_false_iff_ne]; omega
    clear h0 hlm
    generalize lm.length = ll at *
    obtain ⟨okx, A2, c2, B2, d2, HC⟩ := HSV.out
    obtain ⟨mm, hmm⟩ : ∃ mm, sx.ns.length = mm := ⟨_, rfl⟩
    have c5 := HC.c5
    rw [hmm] at c5
    have bD : Below V.heap.size V V.drew := bdrew (b0 V) 1
    have CR := remove_any sx.ns A2 mm c2 V.drew (HC.ss.keep bD) hmm (HH.out.nm.below bD)
    have HD := Lib.hid bD
    have hmix : Tryz.prog.follows .mixedOrders = true := by kernel_rfl
    clear HC hmm bD
    cases hh : sx.ns.any M with
    | false =>
      rw [hh] at CR
      have CR := Lib.hid CR
      have HST := Lib.hid (show stN (M, F) (p, sx) = (M, F) from st_no (by unfold hitS; rw [hh]; simp))
      have HSM := Lib.hid (sub_same hh)
      clear hh
      gi_wp2
      refine region_round l2 hmix (by kernel_rfl) ?_
      change wpAnyIn _ _ _ _ _ _ 7 (Array.replicate 7 false) _ (World.drew _)
      refine wpAnyIn_take (i := 1) (v := .pointer (some p)) rfl rfl (by kernel_rfl) (by kernel_rfl) (by kernel_rfl) (fun _ _ _ h => h) ⟨Or.inl ⟨by rfl, (by intro w; go_simp)⟩, fun _ => rfl⟩ ?_
      refine wpAnyIn_take (i := 2) (v := .pointer (some p)) rfl rfl (by kernel_rfl) (by kernel_rfl) (by kernel_rfl) (fun _ _ _ h => h) ⟨Or.inl ⟨by rfl, (by intro w; go_simp)⟩, fun _ => rfl⟩ ?_
      refine wpAnyIn_take (i := 3) (v := .pointer (some ⟨p.block, p.off + 5, none⟩)) rfl rfl (by kernel_rfl) (by kernel_rfl) (by kernel_rfl) (fun _ _ _ h => h) ⟨Or.inl ⟨by rfl, (by intro w; go_simp)⟩, fun _ => rfl⟩ ?_
      repeat' (first
        | (with_reducible refine wpAnyIn_done (by decide +kernel) ?_ _)
        | (with_reducible refine step_all [0, 1, 2, 3, 4, 5, 6] (by kernel_rfl) (by decide +kernel) ?_)
        | (with_reducible exact allB_nil)
        | (with_reducible refine allB_no (by decide +kernel) ?_)
        | (with_reducible refine allB_yes rfl (fun K hK => ?_) ?_)
        | (go_simp; refine ⟨trivial, rfl, ?_⟩; gi_at_call 73; refine (callsIn_wide.2 CR.out).mono ?_; rintro e1 w3 ⟨rfl, nm3, gr3⟩; have H3 := Lib.hid (NfS.set (HH.out.keep HD.out) hB nm3 gr3); have K3 := Lib.hid ((Kb.below (w := w) (B := q + 1) HD.out).trans (Kb.set gr3)); clear nm3 gr3; refine hK _ _ ?_; clear hK K)
        | (go_simp; refine hK _ _ ?_; clear hK K))
      all_goals
        gi_wp2
        rw [hs0]
        exact ⟨K3.out.post hB hq4 (by omega) (by have := HZ.out; omega), HIN.out _ _ _ _ (by rw [HST.out, ← HSM.out]; exact H3.out)⟩
    | true =>
      rw [hh] at CR
      have CR := Lib.hid CR
      have hst0 : stN (M, F) (p, sx) = (updS M sx, F ++ [(p, sx)]) := st_yes (by unfold hitS; rw [hh])
      clear hh
      obtain ⟨i0, hi0, hz0, hz1, hz2⟩ := info_parts nd_info
      have q2' : ((sx.k : Int) == 2) = decide (sx.k = 2) := k_eq sx.k 2
      by_cases hk2 : sx.k = 2
      · have q2 := q2'.trans (decide_eq_true hk2)
        clear q2'
        cases hz : mayE sx.e with
        | false =>
          have hvd : vald sx = false := by unfold vald; rw [hz]; simp
          have HST := Lib.hid (show stN (M, F) (p, sx) = (subM M sx.ns, F ++ [(p, sx)]) by rw [hst0, upd_no hvd])
          have HVD := Lib.hid hvd
          have HMZ := Lib.hid hz
          clear hvd hst0 hk2 hz
          gi_wp2
          refine region_round l2 hmix (by kernel_rfl) ?_
          change wpAnyIn _ _ _ _ _ _ 7 (Array.replicate 7 false) _ (World.drew _)
          refine wpAnyIn_take (i := 1) (v := .pointer (some p)) rfl rfl (by kernel_rfl) (by kernel_rfl) (by kernel_rfl) (fun _ _ _ h => h) ⟨Or.inl ⟨by rfl, (by intro w; go_simp)⟩, fun _ => rfl⟩ ?_
          refine wpAnyIn_take (i := 2) (v := .pointer (some p)) rfl rfl (by kernel_rfl) (by kernel_rfl) (by kernel_rfl) (fun _ _ _ h => h) ⟨Or.inl ⟨by rfl, (by intro w; go_simp)⟩, fun _ => rfl⟩ ?_
          refine wpAnyIn_take (i := 3) (v := .pointer (some ⟨p.block, p.off + 5, none⟩)) rfl rfl (by kernel_rfl) (by kernel_rfl) (by kernel_rfl) (fun _ _ _ h => h) ⟨Or.inl ⟨by rfl, (by intro w; go_simp)⟩, fun _ => rfl⟩ ?_
          repeat' (first
            | (with_reducible refine wpAnyIn_done (by decide +kernel) ?_ _)
            | (with_reducible refine step_all [0, 1, 2, 3, 4, 5, 6] (by kernel_rfl) (by decide +kernel) ?_)
            | (with_reducible exact allB_nil)
            | (with_reducible refine allB_no (by decide +kernel) ?_)
            | (with_reducible refine allB_yes rfl (fun K hK => ?_) ?_)
            | (go_simp; refine ⟨trivial, rfl, ?_⟩; gi_at_call 73; refine (callsIn_wide.2 CR.out).mono ?_; rintro e1 w3 ⟨rfl, nm3, gr3⟩; have H3 := Lib.hid (NfS.set (HH.out.keep HD.out) hB nm3 gr3); have K3 := Lib.hid ((Kb.below (w := w) (B := q + 1) HD.out).trans (Kb.set gr3)); clear nm3 gr3; refine hK _ _ ?_; clear hK K)
            | (go_simp; refine hK _ _ ?_; clear hK K))
          all_goals
            obtain ⟨-, A3, c3, B3, d3, HC3⟩ := HSW.out.keep H3.out.bel
            have c0 := HC3.c0
            obtain ⟨x0, x1, x2, x3, x4, x5⟩ := HC3.ex
            dsimp only at x0 x1 x2 x3 x4 x5
            simp only [Nat.add_assoc, Nat.reduceAdd] at x1 x2 x3 x4 x5
            have CM := PMayX_any sx.e B3 _ d3 w3 HC3.tr rfl okx.e (HT.out.below H3.out.bel)
            rw [HMZ.out] at CM
            dsimp only [exV] at CM
            generalize strOf sx.e.s = SS3 at *
            have CM := Lib.hid CM
            clear HC3
            gi_wp2_with (first | (refine ⟨trivial, rfl, ?_⟩; gi_at_call 20; refine (CallsIn.inRound l2 (callsIn_wide.2 CM.out)).mono ?_; rintro e1 w4 ⟨rfl, b4⟩; have H4 := Lib.hid (H3.out.keep b4); have K4 := Lib.hid (K3.out.trans (Kb.below b4)); clear b4; have HX5 := Lib.hid (boxS_new w4 79 #[.pointer (some p), .bool false]); have H5 := Lib.hid (H4.out.keep (bal (b0 w4) (.cells #[.pointer (some p), .bool false] 79))); have K5 := Lib.hid (K4.out.trans (Kb.below (bal (b0 w4) (.cells #[.pointer (some p), .bool false] 79)))); have HA := Lib.hid (show BoxS ((w4.alloc (.cells #[.pointer (some p), .bool false] 79)).alloc (.cells #[.pointer (some p), .bool false] 79)) (w4.heap.size + 1) 79 #[.pointer (some p), .bool (vald sx)] by have := boxS_new (w4.alloc (.cells #[.pointer (some p), .bool false] 79)) 79 #[.pointer (some p), .bool false]; rw [World.size_alloc] at this; rw [HVD.out]; exact this); have HB := Lib.hid (show Below (w4.alloc (.cells #[.pointer (some p), .bool false] 79)).heap.size (w4.alloc (.cells #[.pointer (some p), .bool false] 79)) ((w4.alloc (.cells #[.pointer (some p), .bool false] 79)).alloc (.cells #[.pointer (some p), .bool false] 79)) from bal (b0 (w4.alloc (.cells #[.pointer (some p), .bool false] 79))) _); have HF5 := Lib.hid (H5.out.keep HB.out); obtain ⟨z0, z1⟩ : (w4.alloc (.cells #[.pointer (some p), .bool false] 79)).cell? ⟨w4.heap.size, 0, none⟩ = some (.pointer (some p)) ∧ (w4.alloc (.cells #[.pointer (some p), .bool false] 79)).cell? ⟨w4.heap.size, 1, none⟩ = some (.bool false) := ⟨(HX5.out.cell 0).trans rfl, (HX5.out.cell 1).trans rfl⟩; have HAP := Lib.hid (fun ops rest o a Q hgd ho hs hx h => @appIn_nd (Fence.wide.inRound l2) 0 _ ops rest o a Q hgd (.tmp 49) (.tmp 51) ho (q + 1) n1 c1 A1 F (p, sx) (w4.heap.size + 1) hs hx HF5.out.oF HA.out hn16 HF5.out.sz h); have cF := H5.out.bF.cell) | (gi_at_builtin; refine HAP.out _ _ _ _ _ rfl rfl rfl rfl ?_; (rintro A9 cap' w9 hown' hgrow; have bFk := HF5.out.bF.kept hgrow (fun e => by have := (HF5.out.oF.lt _ e.symm).1; omega); have cF9 := bFk.cell; have fF9 := bFk.frozen; have H9 := Lib.hid (HF5.out.app hB hown' hgrow); have K9 := Lib.hid (((K5.out.trans (Kb.below HB.out)).trans (Kb.row HF5.out.oF hgrow)).trans (Kb.cell (w := w) (B := q + 1) (j := 0) w9 (.slice A9 (n1 + 1) cap'))); clear hown' hgrow bFk)))
            rw [hs0]
            exact ⟨K9.out.post hB hq4 (by omega) (by have := HZ.out; omega), HIN.out _ _ _ _ (by rw [HST.out]; exact H9.out)⟩
        | true =>
          have hvd : vald sx = true := by unfold vald; rw [hz, decide_eq_true hk2]; rfl
          have HST := Lib.hid (show stN (M, F) (p, sx) = (addM (subM M sx.ns) (nmE sx.e), F ++ [(p, sx)]) by rw [hst0, upd_yes hvd])
          have HVD := Lib.hid hvd
          have HMZ := Lib.hid hz
          clear hvd hst0 hk2 hz
          gi_wp2
          refine region_round l2 hmix (by kernel_rfl) ?_
          change wpAnyIn _ _ _ _ _ _ 7 (Array.replicate 7 false) _ (World.drew _)
          refine wpAnyIn_take (i := 1) (v := .pointer (some p)) rfl rfl (by kernel_rfl) (by kernel_rfl) (by kernel_rfl) (fun _ _ _ h => h) ⟨Or.inl ⟨by rfl, (by intro w; go_simp)⟩, fun _ => rfl⟩ ?_
          refine wpAnyIn_take (i := 2) (v := .pointer (some p)) rfl rfl (by kernel_rfl) (by kernel_rfl) (by kernel_rfl) (fun _ _ _ h => h) ⟨Or.inl ⟨by rfl, (by intro w; go_simp)⟩, fun _ => rfl⟩ ?_
          refine wpAnyIn_take (i := 3) (v := .pointer (some ⟨p.block, p.off + 5, none⟩)) rfl rfl (by kernel_rfl) (by kernel_rfl) (by kernel_rfl) (fun _ _ _ h => h) ⟨Or.inl ⟨by rfl, (by intro w; go_simp)⟩, fun _ => rfl⟩ ?_
          repeat' (first
            | (with_reducible refine wpAnyIn_done (by decide +kernel) ?_ _)
            | (with_reducible refine step_all [0, 1, 2, 3, 4, 5, 6] (by kernel_rfl) (by decide +kernel) ?_)
            | (with_reducible exact allB_nil)
            | (with_reducible refine allB_no (by decide +kernel) ?_)
            | (with_reducible refine allB_yes rfl (fun K hK => ?_) ?_)
            | (go_simp; refine ⟨trivial, rfl, ?_⟩; gi_at_call 73; refine (callsIn_wide.2 CR.out).mono ?_; rintro e1 w3 ⟨rfl, nm3, gr3⟩; have H3 := Lib.hid (NfS.set (HH.out.keep HD.out) hB nm3 gr3); have K3 := Lib.hid ((Kb.below (w := w) (B := q + 1) HD.out).trans (Kb.set gr3)); clear nm3 gr3; refine hK _ _ ?_; clear hK K)
            | (go_simp; refine hK _ _ ?_; clear hK K))
          all_goals
            obtain ⟨-, A3, c3, B3, d3, HC3⟩ := HSW.out.keep H3.out.bel
            have c0 := HC3.c0
            obtain ⟨x0, x1, x2, x3, x4, x5⟩ := HC3.ex
            dsimp only at x0 x1 x2 x3 x4 x5
            simp only [Nat.add_assoc, Nat.reduceAdd] at x1 x2 x3 x4 x5
            have CM := PMayX_any sx.e B3 _ d3 w3 HC3.tr rfl okx.e (HT.out.below H3.out.bel)
            rw [HMZ.out] at CM
            dsimp only [exV] at CM
            have CM := Lib.hid CM
            clear HC3
            gi_wp2_with (refine ⟨trivial, rfl, ?_⟩; gi_at_call 20; refine (CallsIn.inRound l2 (callsIn_wide.2 CM.out)).mono ?_; rintro e1 w4 ⟨rfl, b4⟩; have H4 := Lib.hid (H3.out.keep b4); have K4 := Lib.hid (K3.out.trans (Kb.below b4)); clear b4; have HX5 := Lib.hid (boxS_new w4 79 #[.pointer (some p), .bool true]); have H5 := Lib.hid (H4.out.keep (bal (b0 w4) (.cells #[.pointer (some p), .bool true] 79))); have K5 := Lib.hid (K4.out.trans (Kb.below (bal (b0 w4) (.cells #[.pointer (some p), .bool true] 79)))); have HD5 := Lib.hid (show Below (w4.alloc (.cells #[.pointer (some p), .bool true] 79)).heap.size (w4.alloc (.cells #[.pointer (some p), .bool true] 79)) (w4.alloc (.cells #[.pointer (some p), .bool true] 79)).drew from bdrew (b0 _) 1); obtain ⟨-, A5, c5', B5, d5, HC5⟩ := HSW.out.keep H5.out.bel; have CD := Lib.hid (add_any sx.e B5 _ d5 (w4.alloc (.cells #[.pointer (some p), .bool true] 79)).drew (HC5.tr.keep HD5.out) rfl okx.e HMZ.out (H5.out.nm.below HD5.out)); obtain ⟨y0, y1, y2, y3, y4, y5⟩ := HC5.ex; dsimp only at y0 y1 y2 y3 y4 y5; simp only [Nat.add_assoc, Nat.reduceAdd] at y1 y2 y3 y4 y5; dsimp only [exV] at CD; have cM5 := H5.out.bM.cell; have zx := (HX5.out.cell 1).trans rfl; clear HC5)
            refine region_round l2 hmix (by kernel_rfl) ?_
            change wpAnyIn _ _ _ _ _ _ 6 (Array.replicate 6 false) _ (World.drew _)
            refine wpAnyIn_take (i := 1) (v := .pointer (some p)) rfl rfl (by kernel_rfl) (by kernel_rfl) (by kernel_rfl) (fun _ _ _ h => h) ⟨Or.inl ⟨by rfl, (by intro w; go_simp)⟩, fun _ => rfl⟩ ?_
            refine wpAnyIn_take (i := 2) (v := .pointer (some p)) rfl rfl (by kernel_rfl) (by kernel_rfl) (by kernel_rfl) (fun _ _ _ h => h) ⟨Or.inl ⟨by rfl, (by intro w; go_simp)⟩, fun _ => rfl⟩ ?_
            refine wpAnyIn_take (i := 3) (v := .pointer (some ⟨p.block, p.off + 6, none⟩)) rfl rfl (by kernel_rfl) (by kernel_rfl) (by kernel_rfl) (fun _ _ _ h => h) ⟨Or.inl ⟨by rfl, (by intro w; go_simp)⟩, fun _ => rfl⟩ ?_
            repeat' (first
              | (with_reducible refine wpAnyIn_done (by decide +kernel) ?_ _)
              | (with_reducible refine step_all [0, 1, 2, 3, 4, 5] (by kernel_rfl) (by decide +kernel) ?_)
              | (with_reducible exact allB_nil)
              | (with_reducible refine allB_no (by decide +kernel) ?_)
              | (with_reducible refine allB_yes rfl (fun K hK => ?_) ?_)
              | (go_simp; refine ⟨trivial, rfl, ?_⟩; gi_at_call 71; refine (callsIn_wide.2 CD.out).mono ?_; rintro e1 w6 ⟨rfl, nm6, gr6⟩; have H6 := Lib.hid (NfS.set (H5.out.keep HD5.out) hB nm6 gr6); have K6 := Lib.hid ((K5.out.trans (Kb.below HD5.out)).trans (Kb.set gr6)); have X6 := Lib.hid ((HX5.out.below HD5.out).kept gr6 (fun e => by injection e with e; have := H4.out.nm.lt; omega)); clear nm6 gr6; refine hK _ _ ?_; clear hK K)
              | (go_simp; refine hK _ _ ?_; clear hK K))
            all_goals
              have HA := Lib.hid (show BoxS (w6.alloc (.cells #[.pointer (some p), .bool true] 79)) (w6.heap.size) 79 #[.pointer (some p), .bool (vald sx)] by rw [HVD.out]; exact boxS_new w6 _ _)
              have HB := Lib.hid (show Below w6.heap.size w6 (w6.alloc (.cells #[.pointer (some p), .bool true] 79)) from bal (b0 w6) _)
              have HF5 := Lib.hid (H6.out.keep HB.out)
              obtain ⟨z0, z1⟩ : w6.cell? ⟨w4.heap.size, 0, none⟩ = some (.pointer (some p)) ∧ w6.cell? ⟨w4.heap.size, 1, none⟩ = some (.bool true) := ⟨(X6.out.cell 0).trans rfl, (X6.out.cell 1).trans rfl⟩
              have HAP := Lib.hid (fun ops rest o a Q hgd ho hs hx h => @appIn_nd (Fence.wide.inRound l2) 0 _ ops rest o a Q hgd (.tmp 49) (.tmp 51) ho (q + 1) n1 c1 A1 F (p, sx) (w6.heap.size) hs hx HF5.out.oF HA.out hn16 HF5.out.sz h)
              have cF := H6.out.bF.cell
              clear zx cM5
              gi_wp2_with (gi_at_builtin; refine HAP.out _ _ _ _ _ rfl rfl rfl rfl ?_; (rintro A9 cap' w9 hown' hgrow; have bFk := HF5.out.bF.kept hgrow (fun e => by have := (HF5.out.oF.lt _ e.symm).1; omega); have cF9 := bFk.cell; have fF9 := bFk.frozen; have H9 := Lib.hid (HF5.out.app hB hown' hgrow); have K9 := Lib.hid (((K6.out.trans (Kb.below HB.out)).trans (Kb.row HF5.out.oF hgrow)).trans (Kb.cell (w := w) (B := q + 1) (j := 0) w9 (.slice A9 (n1 + 1) cap'))); clear hown' hgrow bFk))
              rw [hs0]
              exact ⟨K9.out.post hB hq4 (by omega) (by have := HZ.out; omega), HIN.out _ _ _ _ (by rw [HST.out]; exact H9.out)⟩
      · have q2 := q2'.trans (decide_eq_false hk2)
        have hvd : vald sx = false := by unfold vald; rw [decide_eq_false hk2]; rfl
        have HST := Lib.hid (show stN (M, F) (p, sx) = (subM M sx.ns, F ++ [(p, sx)]) by rw [hst0, upd_no hvd])
        have HVD := Lib.hid hvd
        clear hvd hst0 hk2 q2'
        gi_wp2
        refine region_round l2 hmix (by kernel_rfl) ?_
        change wpAnyIn _ _ _ _ _ _ 7 (Array.replicate 7 false) _ (World.drew _)
        refine wpAnyIn_take (i := 1) (v := .pointer (some p)) rfl rfl (by kernel_rfl) (by kernel_rfl) (by kernel_rfl) (fun _ _ _ h => h) ⟨Or.inl ⟨by rfl, (by intro w; go_simp)⟩, fun _ => rfl⟩ ?_
        refine wpAnyIn_take (i := 2) (v := .pointer (some p)) rfl rfl (by kernel_rfl) (by kernel_rfl) (by kernel_rfl) (fun _ _ _ h => h) ⟨Or.inl ⟨by rfl, (by intro w; go_simp)⟩, fun _ => rfl⟩ ?_
        refine wpAnyIn_take (i := 3) (v := .pointer (some ⟨p.block, p.off + 5, none⟩)) rfl rfl (by kernel_rfl) (by kernel_rfl) (by kernel_rfl) (fun _ _ _ h => h) ⟨Or.inl ⟨by rfl, (by intro w; go_simp)⟩, fun _ => rfl⟩ ?_
        repeat' (first
          | (with_reducible refine wpAnyIn_done (by decide +kernel) ?_ _)
          | (with_reducible refine step_all [0, 1, 2, 3, 4, 5, 6] (by kernel_rfl) (by decide +kernel) ?_)
          | (with_reducible exact allB_nil)
          | (with_reducible refine allB_no (by decide +kernel) ?_)
          | (with_reducible refine allB_yes rfl (fun K hK => ?_) ?_)
          | (go_simp; refine ⟨trivial, rfl, ?_⟩; gi_at_call 73; refine (callsIn_wide.2 CR.out).mono ?_; rintro e1 w3 ⟨rfl, nm3, gr3⟩; have H3 := Lib.hid (NfS.set (HH.out.keep HD.out) hB nm3 gr3); have K3 := Lib.hid ((Kb.below (w := w) (B := q + 1) HD.out).trans (Kb.set gr3)); clear nm3 gr3; refine hK _ _ ?_; clear hK K)
          | (go_simp; refine hK _ _ ?_; clear hK K))
        all_goals
          obtain ⟨-, A3, c3, B3, d3, HC3⟩ := HSW.out.keep H3.out.bel
          have c0 := HC3.c0
          clear HC3
          have HX4 := Lib.hid (boxS_new w3 79 #[.pointer (some p), .bool false])
          have H4 := Lib.hid (H3.out.keep (bal (b0 w3) (.cells #[.pointer (some p), .bool false] 79)))
          have K4 := Lib.hid (K3.out.trans (Kb.below (bal (b0 w3) (.cells #[.pointer (some p), .bool false] 79))))
          have HA := Lib.hid (show BoxS ((w3.alloc (.cells #[.pointer (some p), .bool false] 79)).alloc (.cells #[.pointer (some p), .bool false] 79)) (w3.heap.size + 1) 79 #[.pointer (some p), .bool (vald sx)] by have := boxS_new (w3.alloc (.cells #[.pointer (some p), .bool false] 79)) 79 #[.pointer (some p), .bool false]; rw [World.size_alloc] at this; rw [HVD.out]; exact this)
          have HB := Lib.hid (show Below (w3.alloc (.cells #[.pointer (some p), .bool false] 79)).heap.size (w3.alloc (.cells #[.pointer (some p), .bool false] 79)) ((w3.alloc (.cells #[.pointer (some p), .bool false] 79)).alloc (.cells #[.pointer (some p), .bool false] 79)) from bal (b0 (w3.alloc (.cells #[.pointer (some p), .bool false] 79))) _)
          have HF5 := Lib.hid (H4.out.keep HB.out)
          have hF5 := HF5.out.oF.len
          obtain ⟨z0, z1⟩ : (w3.alloc (.cells #[.pointer (some p), .bool false] 79)).cell? ⟨w3.heap.size, 0, none⟩ = some (.pointer (some p)) ∧ (w3.alloc (.cells #[.pointer (some p), .bool false] 79)).cell? ⟨w3.heap.size, 1, none⟩ = some (.bool false) := ⟨(HX4.out.cell 0).trans rfl, (HX4.out.cell 1).trans rfl⟩
          have HAP := Lib.hid (fun ops rest o a Q hgd ho hs hx h => @appIn_nd (Fence.wide.inRound l2) 0 _ ops rest o a Q hgd (.tmp 49) (.tmp 51) ho (q + 1) n1 c1 A1 F (p, sx) (w3.heap.size + 1) hs hx HF5.out.oF HA.out hn16 HF5.out.sz h)
          have cF := H4.out.bF.cell
          gi_wp2_with (first | (refine ⟨trivial, ?_⟩; with_reducible assumption) | (refine ⟨trivial, ?_⟩; (rename_i hKK; refine hKK _ _ ?_)) | (gi_at_builtin; refine HAP.out _ _ _ _ _ rfl rfl rfl rfl ?_; (rintro A9 cap' w9 hown' hgrow; have bFk := HF5.out.bF.kept hgrow (fun e => by have := (HF5.out.oF.lt _ e.symm).1; omega); have cF9 := bFk.cell; have fF9 := bFk.frozen; have H9 := Lib.hid (HF5.out.app hB hown' hgrow); have K9 := Lib.hid (((K4.out.trans (Kb.below HB.out)).trans (Kb.row HF5.out.oF hgrow)).trans (Kb.cell (w := w) (B := q + 1) (j := 0) w9 (.slice A9 (n1 + 1) cap'))); clear hown' hgrow bFk)))
          rw [hs0]
          exact ⟨K9.out.post hB hq4 (by omega) (by have := HZ.out; omega), HIN.out _ _ _ _ (by rw [HST.out]; exact H9.out)⟩
  case done =>
    rintro D ys V hD rfl ⟨A1, n1, c1, H⟩ hK
    have E1 := Lib.hid (nd_end H (by omega) hK (by omega) (by rw [← need_all, ← hk, rev_dn]) (nd_all HS.out (fun i hi => by rw [hk]; exact dn_mem hi) M0))
    have cF := H.bF.cell
    have HK := Lib.hid hK
    clear hK H bQ h0
    gi_wp2
    try rw [Exit.noGoto_ret]
    refine ⟨by simp, .inl ⟨_, _, rfl, run_takeDeferred HK.out, ?_⟩⟩
    refine ⟨.slice A1 n1 c1, ?_, ?_⟩
    · simp [results, Tryz.f32, go_sem]
    · exact E1.out
  case stop =>
    rintro D co pre V hD hpre ⟨rfl, ⟨A1, n1, c1, H⟩, hM⟩ hK
    have E1 := Lib.hid (nd_end H (by omega) hK (by omega) (by
      have hp : pre.map (ndOf E l) <+: (dn k).map (ndOf E l) := by
        obtain ⟨r, hr⟩ := hpre
        exact ⟨r.map (ndOf E l), by rw [← hr, List.map_append]⟩
      have := need_stop hp M0 hM
      rw [← this, ← hk, rev_dn]) (nd_all HS.out (fun i hi => by rw [hk]; exact dn_mem (hpre.subset hi)) M0))
    have cF := H.bF.cell
    have HK := Lib.hid hK
    clear hK H bQ h0 hM
    gi_wp2
    try rw [Exit.noGoto_ret]
    refine ⟨by simp, .inl ⟨_, _, rfl, run_takeDeferred HK.out, ?_⟩⟩
    refine ⟨.slice A1 n1 c1, ?_, ?_⟩
    · simp [results, Tryz.f32, go_sem]
    · exact E1.out
end Go.Proofs.YtimbiobonigdmaaGreatDoor
/- A range over a function whose iterator turns no cells (as Soft, but for the boxes); back_items under that contract. -/
set_option linter.unusedVariables false
set_option linter.unusedSimpArgs false
namespace Go.Proofs.YtimbiobonigdmaaGreatDoor
open Go Go.RowKit Go.Shelf
namespace Hd

/-- What an iterator may turn between two rounds: no cells. -/
def Soft (o : Obj) : Prop := o.isCells = false
/-- What stands whatever is turned among the blocks of 'ok'. -/
def Abd {β : Type} (ok : Nat → Prop) (J : β → World → Prop) : Prop := ∀ s X Y row, J s X → X.grownBy Y row → (∀ r, row = some r → ok r ∧ ∃ o, X.heap[r]? = some o ∧ Soft o) → J s Y
theorem Abd.grown {β : Type} {ok : Nat → Prop} {J : β → World → Prop} (h : Abd ok J) {s : β} {X Y : World} (hs : J s X) (hg : X.grownBy Y none) : J s Y := h s X Y none hs hg (fun _ e => (by cases e))
theorem Abd.put {β : Type} {ok : Nat → Prop} {J : β → World → Prop} (h : Abd ok J) {s : β} {X : World} {l : Nat} {o : Obj} (o' : Obj) (hs : J s X) (hB : ok l) (hl : X.heap[l]? = some o) (ho : o.isCells = false) : J s (X.putObj l o') :=
  h s X _ (some l) hs (grownBy_putObj' X l o') (fun r e => by cases e; exact ⟨hB, o, hl, ho⟩)
theorem Abd.and {β : Type} {ok : Nat → Prop} {J K : β → World → Prop} (h : Abd ok J) (k : Abd ok K) : Abd ok (fun s W => J s W ∧ K s W) := fun s X Y row hs hg hr => ⟨h s X Y row hs.1 hg hr, k s X Y row hs.2 hg hr⟩
theorem abd_pure {β : Type} (ok : Nat → Prop) (p : β → Prop) : Abd ok (fun s (_ : World) => p s) := fun _ _ _ _ hs _ _ => hs
/-- A box that is none of those. -/
theorem abd_box {β : Type} {ok : Nat → Prop} {B : Nat} (hB : ¬ ok B) (t : TypeId) (f : β → Value) : Abd ok (fun s W => Boxed W B t (f s)) := fun s X Y row hs hg hr =>
  Boxed.kept hs hg (fun e => hB (hr B e.symm).1)
theorem abd_below {β : Type} {ok : Nat → Prop} {n : Nat} {w : World} (hn : n ≤ w.heap.size) (h : ∀ r, ok r → n ≤ r) : Abd ok (fun (_ : β) W => Below n w W) := fun s X Y row hs hg hr =>
  Below.grown hs hg (Nat.le_trans hn hs.size) (fun k e => h k (hr k e).1)

/-- The contract of such an iterator; 'own': its own boxes that lay ahead of the call. -/
def SeqS {α : Type} (P : Program) (own : Nat → Prop) (gf : Nat) (lb : Array Value) (encs : α → Array Value) (Kp : World → World → Prop) (S Sp : List α → Prop) (w : World) : Prop :=
  ∀ (l : Nat) (J Jx : List α → World → Prop) (W : World), Below w.heap.size w W → Abd (fun r => own r ∨ W.heap.size ≤ r) J → Abd (fun r => own r ∨ W.heap.size ≤ r) Jx →
    (∀ pre x V, J pre V → Sp (pre ++ [x]) → YieldAt Fence.wide 0 P l (encs x) V fun e V' => ((e = .returned (.bool true) ∧ J (pre ++ [x]) V') ∨ (e = .returned (.bool false) ∧ Jx (pre ++ [x]) V')) ∧ Kp V V') →
    J [] W →
    CallsIn Fence.wide 0 P gf (#[.func (.yield l) #[] #[]] ++ lb) W fun e W' => (∃ v, e = .returned v) ∧ ((∃ xs, S xs ∧ J xs W') ∨ ∃ pre, Sp pre ∧ Jx pre W')

/-- How the body of such a loop may be left. -/
def postS {α : Type} (B : Nat) (Kp : World → World → Prop) (I : List α → World → Prop) (Ix : Code → List α → World → Prop) (xs : List α) (W : World) : Exit → Act → World → Prop
  | .normal, _, V => (KeepsFrom B W V ∧ Kp W V) ∧ I xs V
  | .ret, _, V => (KeepsFrom B W V ∧ Kp W V) ∧ Ix .ret xs V
  | .exit k, _, V => (KeepsFrom B W V ∧ Kp W V) ∧ Ix (.exit k) xs V
  | .goto k, _, V => (KeepsFrom B W V ∧ Kp W V) ∧ Ix (.goto k) xs V
  | .panic _, _, _ => False
  | .outgrown, _, _ => False

theorem range_soft {α : Type} {P : Program} {n : Nat} {g : Operand} {ps : Array Tmp} {asg body : Code} {Q : Exit → Act → World → Prop} {a : Act} {w : World} {own : Nat → Prop} (hown : ∀ r, own r → r < w.heap.size)
    {gf : Nat} {lb : Array Value} (hg : a.eval g = .func (.func gf) #[] lb) (eg : ∀ args w, (callFunc gf args).run P w = .ok (.enter gf args) w)
    {encs : α → Array Value} {Kp : World → World → Prop} {S Sp : List α → Prop} {w0 : World} (hseq : SeqS P own gf lb encs Kp S Sp w0)
    (hKt : ∀ {A B C : World}, Kp A B → Kp B C → Kp A C) (hKb : ∀ (W : World) (o o' : Obj), W.heap[w.heap.size + 1]? = some o → o.isCells = false → Kp W (W.putObj (w.heap.size + 1) o')) (hb0 : Below w0.heap.size w0 w) (hps : ∀ x, (encs x).size = ps.size)
    (I : List α → World → Prop) (Ix : Code → List α → World → Prop) (hI : Abd (fun r => own r ∨ w.heap.size ≤ r) I) (hIx : ∀ c, Abd (fun r => own r ∨ w.heap.size ≤ r) (Ix c)) (h0 : I [] w)
    (Ax : α → Act → World → Prop) (hAx : ∀ x a' (W : World) (o o' : Obj), Ax x a' W → W.heap[w.heap.size + 1]? = some o → o.isCells = false → Ax x a' (W.putObj (w.heap.size + 1) o'))
    (hassign : ∀ (l : Nat) (pre : List α) (x : α) (W : World) (K : Act → World → Prop), I pre W → (∀ a' W', KeepsFrom w.heap.size W W' → Kp W W' → I pre W' → Ax x a' W' → K a' W') →
      asg.wpIn (Fence.wide.inRound l) 0 P (Exit.then K (fun _ _ _ => False)) { tmps := (ps.zip (encs x)).foldl (fun t (p, v) => t.setIfInBounds p v) a.tmps, defers := [] } W)
    (hbody : ∀ (l : Nat) (pre : List α) (x : α) (a' : Act) (W : World), I pre W → Ax x a' W → Sp (pre ++ [x]) → body.wpIn (Fence.wide.inRound l) 0 P (postS w.heap.size Kp I Ix (pre ++ [x]) W) a' W)
    (hdone : ∀ (D : Nat) (xs : List α) (W : World), w.heap.size ≤ D → S xs → I xs W → W.heap[D]? = some (.deferred (some [])) → Q .normal { a with defers := { target := .collected D, args := #[] } :: a.defers } W)
    (hstop : ∀ (D : Nat) (c : Code) (pre : List α) (W : World), w.heap.size ≤ D → Sp pre → Ix c pre W → W.heap[D]? = some (.deferred (some [])) → c.wpIn Fence.wide n P Q { a with defers := { target := .collected D, args := #[] } :: a.defers } W) :
    (Code.rangeFunc g ps asg body).wpIn Fence.wide n P Q a w := by
  refine wpIn_rangeFunc ?_
  intro fn hfn
  obtain ⟨rc, hrc⟩ : ∃ rc : LoopState → Option Code → Loop, rc = fun st j => { state := st, pending := j, fn, tmps := a.tmps, params := ps, assign := asg, body, defers := w.heap.size } := ⟨_, rfl⟩
  obtain ⟨D, hD⟩ : ∃ D, w.heap.size = D := ⟨_, rfl⟩
  obtain ⟨V, hV⟩ : ∃ V, (w.alloc (.deferred (some []))).alloc (.loop (rc .ready none)) = V := ⟨_, rfl⟩
  have e1 : (w.alloc (.deferred (some []))).heap.size = D + 1 := by rw [World.size_alloc, hD]
  have hVs : V.heap.size = D + 2 := by rw [← hV, World.size_alloc, e1]
  have hVl : V.heap[D + 1]? = some (.loop (rc .ready none)) := by
    have h := World.alloc_heap_new (w.alloc (.deferred (some []))) (.loop (rc .ready none))
    rw [e1, hV] at h; exact h
  have hVd : V.heap[D]? = some (.deferred (some [])) := by
    have h := World.alloc_heap_new w (.deferred (some []))
    rw [hD] at h
    rw [← hV]
    exact (Below.heap_alloc _ _ D (by omega)).trans h
  have hVI : I [] V := by
    rw [← hV]
    exact hI.grown (hI.grown h0 (World.grownBy_alloc _ _ none)) (World.grownBy_alloc _ _ none)
  have hVb : Below w0.heap.size w0 V := by
    rw [← hV]; exact bal (bal hb0 _) _
  -- the two blocks of the loop stand whatever the iterator turns
  have two : ∀ {X Y : World} {row : Option Nat} {k : Nat} {o : Obj}, X.grownBy Y row → (∀ r, row = some r → (own r ∨ V.heap.size ≤ r) ∧ ∃ o, X.heap[r]? = some o ∧ Soft o) → D ≤ k → k < D + 2 → X.heap[k]? = some o → Y.heap[k]? = some o := by
    intro X Y row k o hgr hr hk1 hk2 hk
    refine (hgr.block k (Array.getElem?_eq_some_iff.1 hk).1 (fun e => ?_)).trans hk
    rcases (hr k e.symm).1 with h | h
    · have := hown k h; omega
    · omega
  have less : ∀ {X : World} {row : Option Nat}, (∀ r, row = some r → (own r ∨ V.heap.size ≤ r) ∧ ∃ o, X.heap[r]? = some o ∧ Soft o) → ∀ r, row = some r → (own r ∨ w.heap.size ≤ r) ∧ ∃ o, X.heap[r]? = some o ∧ Soft o := by
    intro X row hr r e
    obtain ⟨h1, h2⟩ := hr r e
    exact ⟨h1.imp id (fun h => by omega), h2⟩
  refine ⟨D + 1, [{ target := .collected D, args := #[] }], V, { target := .fn (.func gf) lb, args := #[.func (.yield (D + 1)) #[] #[]] }, V, gf, #[.func (.yield (D + 1)) #[] #[]] ++ lb, V, ?_, ?_, fun _ _ => trivial, ?_, (fun h => (by cases h)), ?_⟩
  · have h := run_enterLoop_outer (P := P) (w := w) fn a.tmps ps asg body
    rw [hD] at h
    rw [← hV, hrc, hD]
    exact h
  · simp only [resolve, hg]
    simp [go_sem]
  · simp [invoke, go_sem, eg]
  · refine callsIn_wide.2 (callsIn_wide.1 ((hseq (D + 1)
      (fun pre X => I pre X ∧ X.heap[D + 1]? = some (.loop (rc .ready none)) ∧ X.heap[D]? = some (.deferred (some [])))
      (fun pre X => ∃ c, Ix c pre X ∧ X.heap[D + 1]? = some (.loop (rc .done (some c))) ∧ X.heap[D]? = some (.deferred (some [])))
      V hVb
      (fun s X Y row hs hgr hr => ⟨hI s X Y row hs.1 hgr (less hr), two hgr hr (by omega) (by omega) hs.2.1, two hgr hr (by omega) (by omega) hs.2.2⟩)
      (fun s X Y row hs hgr hr => by
        obtain ⟨c, h1, h2, h3⟩ := hs
        exact ⟨c, hIx c s X Y row h1 hgr (less hr), two hgr hr (by omega) (by omega) h2, two hgr hr (by omega) (by omega) h3⟩)
      ?round ⟨hVI, hVl, hVd⟩).mono ?behind))
    case behind =>
      rintro e X ⟨⟨v, rfl⟩, (⟨xs, hS, h1, h2, h3⟩ | ⟨pre, hSp, c, h1, h2, h3⟩)⟩
      · have h4 : (Instr.endLoop (D + 1)).run P X = .ok none (X.putObj (D + 1) (.loop (rc .exhausted none))) := by
          have h := run_endLoop (P := P) h2 (by rw [hrc]; simp)
          rw [hrc] at h ⊢
          exact h
        exact ⟨none, _, h4, hdone D xs _ (by omega) hS (hI.put _ h1 (.inr (by omega)) h2 rfl) ((World.putObj_heap_other (by omega)).trans h3)⟩
      · have h4 : (Instr.endLoop (D + 1)).run P X = .ok (some c) (X.putObj (D + 1) (.loop (rc .exhausted (some c)))) := by
          have h := run_endLoop (P := P) h2 (by rw [hrc]; simp)
          rw [hrc] at h ⊢
          exact h
        exact ⟨some c, _, h4, hstop D c pre _ (by omega) hSp ((hIx c).put _ h1 (.inr (by omega)) h2 rfl) ((World.putObj_heap_other (by omega)).trans h3)⟩
    case round =>
      rintro pre x X ⟨h1, h2, h3⟩ hsp
      have hy := run_yield (P := P) (args := encs x) h2 (by rw [hrc]; exact hps x)
      rw [hrc] at hy
      refine ⟨fn, _, asg, body, hy, roundIn_of_wpIn hfn (hassign _ pre x X _ h1 ?_)⟩
      clear hy h1
      intro a' Y k1 k2 i1 ax
      have g2 := k1.same _ _ (by omega) h2 rfl
      have g3 := k1.same _ _ (by omega) h3 rfl
      clear h2 h3
      obtain ⟨b2, hb2⟩ : ∃ b2, (Obj.loop { rc .ready none with state := .busy }) = b2 := ⟨_, rfl⟩
      obtain ⟨Z, hZ⟩ : ∃ Z, Y.putObj (D + 1) b2 = Z := ⟨_, rfl⟩
      have hbeg := run_beginRound (P := P) g2 (by rw [hrc])
      rw [hb2, hZ] at hbeg
      refine ⟨Z, hbeg, ?_⟩
      have hl := (Array.getElem?_eq_some_iff.1 g2).1
      have z2 : Z.heap[D + 1]? = some b2 := by rw [← hZ]; exact World.putObj_heap_same hl
      have z3 : Z.heap[D]? = some (.deferred (some [])) := by rw [← hZ]; exact (World.putObj_heap_other (by omega)).trans g3
      have zK : Kp Y Z := by
        have := hKb Y _ b2 (by rw [hD]; exact g2) rfl
        rw [hD, hZ] at this; exact this
      have zI : I pre Z := by rw [← hZ]; exact hI.put _ i1 (.inr (by omega)) g2 rfl
      have zA : Ax x a' Z := by
        have := hAx x a' Y _ b2 ax (by rw [hD]; exact g2) rfl
        rw [hD, hZ] at this; exact this
      have hKb' : ∀ (U : World) (o' : Obj), U.heap[D + 1]? = some b2 → Kp U (U.putObj (D + 1) o') := fun U o' hU => by
        have := hKb U _ o' (by rw [hD]; exact hU) (by rw [← hb2]; rfl)
        rw [hD] at this; exact this
      have fin : ∀ (j : Option Code) (U : World), KeepsFrom w.heap.size Z U ∧ Kp Z U →
          (Instr.endRound (D + 1) j).run P U = .ok (.bool j.isNone) (U.putObj (D + 1) (.loop (rc (if j.isNone then .ready else .done) j))) ∧ U.heap[D + 1]? = some b2 ∧
          (U.putObj (D + 1) (.loop (rc (if j.isNone then .ready else .done) j))).heap[D + 1]? = some (.loop (rc (if j.isNone then .ready else .done) j)) ∧
          (U.putObj (D + 1) (.loop (rc (if j.isNone then .ready else .done) j))).heap[D]? = some (.deferred (some [])) ∧ Kp X (U.putObj (D + 1) (.loop (rc (if j.isNone then .ready else .done) j))) := by
        rintro j U ⟨u1, u2⟩
        have u3 := u1.same _ _ (by omega) z2 (by rw [← hb2]; rfl)
        have u4 := u1.same _ _ (by omega) z3 rfl
        have u5 : U.heap[D + 1]? = some (.loop { rc .ready none with state := .busy }) := by rw [hb2]; exact u3
        have h := run_endRound (P := P) j u5
        refine ⟨?_, u3, World.putObj_heap_same (Array.getElem?_eq_some_iff.1 u3).1, (World.putObj_heap_other (by omega)).trans u4, hKt k2 (hKt zK (hKt u2 (hKb' _ _ u3)))⟩
        rw [hrc] at h ⊢
        exact h
      have ho : b2.isCells = false := by rw [← hb2]; rfl
      refine wpIn_mono (hbody _ pre x a' Z zI zA hsp) ?_
      rintro e a3 U hp
      cases e with
      | normal =>
        obtain ⟨f1, f2, f3, f4, f5⟩ := fin none U hp.1
        exact ⟨_, _, f1, .inl ⟨rfl, hI.put _ hp.2 (.inr (by omega)) f2 ho, f3, f4⟩, f5⟩
      | ret =>
        obtain ⟨f1, f2, f3, f4, f5⟩ := fin (some .ret) U hp.1
        exact ⟨_, _, f1, .inr ⟨rfl, .ret, (hIx _).put _ hp.2 (.inr (by omega)) f2 ho, f3, f4⟩, f5⟩
      | exit k =>
        obtain ⟨f1, f2, f3, f4, f5⟩ := fin (some (.exit k)) U hp.1
        exact ⟨_, _, f1, .inr ⟨rfl, .exit k, (hIx _).put _ hp.2 (.inr (by omega)) f2 ho, f3, f4⟩, f5⟩
      | goto k =>
        obtain ⟨f1, f2, f3, f4, f5⟩ := fin (some (.goto k)) U hp.1
        exact ⟨_, _, f1, .inr ⟨rfl, .goto k, (hIx _).put _ hp.2 (.inr (by omega)) f2 ho, f3, f4⟩, f5⟩
      | panic k => exact hp.elim
      | outgrown => exact hp.elim

open L8 L10 L14
set_option maxRecDepth 100000 in
set_option maxHeartbeats 4000000 in
theorem back_items {q n c : Nat} {A : Option Addr} {l : List Nd} {w0 : World} (hN : NdR w0 A n l) (hc : n ≤ c) (hm : c ≤ maxLen) (hB : Boxed w0 q 76 (.slice A n c)) :
    SeqS Tryz.prog (fun _ => False) 70 #[.pointer (some ⟨q, 0, none⟩)] (encB l) (KpR q A) (fun ys => ys = dn n) (fun pre => pre <+: dn n) w0 := by
  intro l1 J Jx W hW hJ hJx hY h0
  have bW : Boxed W q 76 (.slice A n c) := (hW.block q hB.lt).trans hB
  have HJ := Lib.hid hJ
  have HY := Lib.hid hY
  have H0 := Lib.hid (show DnB J q (.slice A n c) n n A l W from ⟨by rw [Nat.sub_self, List.take_zero]; exact h0, bW, hN.keep hW⟩)
  have c1 := bW.cell
  have hmx : n ≤ maxLen := by omega
  unfold maxLen at hmx
  have hn0 : (0 : Int) ≤ (n : Int) := by omega
  clear hJ hY h0 bW hW hB hJx hm hN
  refine callsIn_of_wp Tryz.func70 rfl trivial ?_ rfl
  simp only [Tryz.ntmps70, List.size_toArray, List.length_cons, List.length_nil, Nat.reduceAdd, Nat.reduceSub, Array.replicate_succ, Array.replicate_zero, List.push_toArray, List.append_toArray, List.nil_append, List.cons_append]
  gi_wp2
  clear c1
  gi_loopw [3] (fun i wr => ∃ r : Nat, r ≤ n ∧ i = .int .i64 ((r : Int) - 1) ∧ Hid (DnB J q (.slice A n c) n r A l wr)) (fun i _ => (intOf i + 1).toNat)
  case atStart => exact ⟨n, Nat.le_refl _, rfl, H0⟩
  case round =>
    obtain ⟨r, hr, rfl, H⟩ := hrel
    by_cases h0 : r = 0
    · subst h0
      have HP := Lib.hid (show J (dn n) wr from by
        have := H.out.1
        rwa [Nat.sub_zero, List.take_of_length_le (by rw [dn_len]; exact Nat.le_refl _)] at this)
      gi_wp2
      go_end0
      exact ⟨⟨_, rfl⟩, .inl ⟨_, rfl, HP.out⟩⟩
    · obtain ⟨z, rfl⟩ : ∃ z, r = z + 1 := ⟨r - 1, by omega⟩
      have hz : ((z + 1 : Nat) : Int) - 1 = (z : Int) := by omega
      rw [hz]
      clear h0 hz
      have hz0 : (0 : Int) ≤ (z : Int) := by omega
      have hzn : (z : Int) < (n : Int) := by omega
      obtain ⟨ad, rfl, x0, x1⟩ := H.out.2.2.rd z (by omega)
      have hpre := dn_take (n := n) (z := z) (by omega)
      obtain ⟨fn, tmps, asg, body, hy, hR⟩ := HY.out ((dn n).take (n - (z + 1))) z _ H.out.1 (by rw [hpre]; exact List.take_prefix _ _)
      have HP := Lib.hid hpre
      have c1 := H.out.2.1.cell
      have HB := Lib.hid H.out.2
      dsimp only [encB] at hy
      generalize (l.getD z nd0).1 = p0 at *
      generalize vald (l.getD z nd0).2 = v0 at *
      clear hpre
      gi_wp2
      refine ⟨rfl, hR.mono ?_⟩
      rintro e V3 ⟨(⟨rfl, h3⟩ | ⟨rfl, h3⟩), hk⟩
      · have HK := Lib.hid (show DnB J q (.slice (some ad) n c) n z (some ad) l V3 from ⟨by rw [← HP.out]; exact h3, Eq.trans hk.1 HB.out.1, HB.out.2.kp hk.2⟩)
        clear h3 hk hR hy c1 x0 x1
        gi_wp2
        go_roundw
        case rel => exact ⟨z, by omega, rfl, HK⟩
        case measure => simp [intOf]
      · clear hk hR hy c1
        gi_wp2
        refine bodyPost_ret (results_none rfl _ _ _) rfl ?_
        exact ⟨⟨_, rfl⟩, .inr ⟨_, by rw [HP.out]; exact List.take_prefix _ _, h3⟩⟩
end Hd
end Go.Proofs.YtimbiobonigdmaaGreatDoor
