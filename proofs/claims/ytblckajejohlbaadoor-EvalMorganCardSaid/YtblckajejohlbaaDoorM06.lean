/- The program: Same. -/
import Derived.Laws.EntriesVeiled
import Derived.Deep.WholeRow
import Derived.Deep.AppendLies
import Derived.Test.YtblckajejohlbaaDoorM05
import Derived.Test.YtblckajejohlbaaDoorM04
set_option linter.unusedVariables false
set_option linter.unusedSimpArgs false
set_option linter.unusedVariables false
set_option linter.unusedSimpArgs false
namespace Go.Proofs.YtblckajejohlbaaDoor
open Go Go.RowKit L8 L22 L17
open L14 (inW)

theorem take_eq {α : Type} {a b : List α} {j : Nat} (d : α) (ha : j < a.length) (hb : j < b.length) (h : a.take j = b.take j) (e : a.getD j d = b.getD j d) : a.take (j + 1) = b.take (j + 1) := by
  rw [List.take_succ_eq_append_getElem ha, List.take_succ_eq_append_getElem hb, h]
  congr 2
  simpa [ha, hb] using e
theorem take_all {α : Type} {a b : List α} {n : Nat} (ha : a.length = n) (hb : b.length = n) (h : a.take n = b.take n) : a = b := by
  rwa [← ha, List.take_length, ha, ← hb, List.take_length] at h
set_option maxRecDepth 100000 in
set_option maxHeartbeats 4000000 in
theorem eqL_any (a b : List Int) (A B : Option Addr) (n m c d : Nat) (w : World) (Ra : WoR w A c a) (Rb : WoR w B d b) (hn : a.length = n) (hm : b.length = m) : Calls Tryd.prog 45 #[.slice A n c, .slice B m d] w fun en w' => en = .returned (.bool (decide (a = b))) ∧ Below w.heap.size w w' := by
  have hsa : (n : Int) ≤ 9223372036854775807 := by have := Ra.le; have := Ra.mx; unfold maxLen at this; omega
  have hsb : (m : Int) ≤ 9223372036854775807 := by have := Rb.le; have := Rb.mx; unfold maxLen at this; omega
  have HB0 := Lib.hid (b0 w)
  by_cases hnm : n ≠ m
  · have q0 : ((n : Int) != (m : Int)) = true := by simp; omega
    rw [decide_eq_false (show ¬ a = b from fun e => hnm (by rw [← hn, ← hm, e]))]
    clear Ra Rb hn hm hnm
    go_enter Tryd.func45, Tryd.ntmps45
    go_wp2
    go_ret
    exact ⟨rfl, HB0.out⟩
  obtain rfl : n = m := by omega
  have HA := Lib.hid Ra
  have HR := Lib.hid Rb
  have HN := Lib.hid (And.intro hn hm)
  have q0 : ((n : Int) != (n : Int)) = false := by simp
  obtain ⟨F, hF⟩ : ∃ F, decide (a = b) = F := ⟨_, rfl⟩
  rw [hF]
  have HF := Lib.hid hF
  clear Ra Rb hn hm hnm hF
  go_enter Tryd.func45, Tryd.ntmps45
  go_wp2
  go_loopw [13] (fun ι wr => ∃ j : Nat, j ≤ n ∧ ι = .int .i64 j ∧ a.take j = b.take j ∧ Hid (Below w.heap.size w wr)) (fun ι _ => n - (intOf ι).toNat)
  case atStart => exact ⟨0, Nat.zero_le _, rfl, by simp, HB0⟩
  case round =>
    obtain ⟨j, hj, rfl, he, H⟩ := hrel
    have he := Lib.hid he
    have hj0 : (0 : Int) ≤ (j : Int) := by omega
    by_cases hlt : (j : Int) < (n : Int)
    · obtain ⟨p, rfl, x0⟩ := (HA.out.keep H.out).rd j (by have := HN.out; omega)
      obtain ⟨q, rfl, y0⟩ := (HR.out.keep H.out).rd j (by have := HN.out; omega)
      by_cases hx : a.getD j 0 = b.getD j 0
      · have hs := Lib.hid (take_eq 0 (by have := HN.out; omega) (by have := HN.out; omega) he.out hx)
        rw [← hx] at y0
        have qx : (a.getD j 0 != a.getD j 0) = false := by simp
        clear hx
        generalize a.getD j 0 = x at *
        go_wp2
        go_quiet (fail)
        have H2 := Lib.hid (show Below w.heap.size w (wr.drewN nq) from bdrew H.out nq)
        generalize wr.drewN nq = W at *
        go_wp2
        go_roundw
        case rel => exact ⟨j + 1, by omega, by go_num, hs.out, H2⟩
        case measure => simp [intOf]; omega
      · have hs := Lib.hid (show F = false by rw [← HF.out]; exact decide_eq_false fun e => hx (by rw [e]))
        have qx : (a.getD j 0 != b.getD j 0) = true := by simpa using hx
        clear hx
        generalize a.getD j 0 = x at *
        generalize b.getD j 0 = y at *
        go_wp2
        go_quiet (fail)
        have H2 := Lib.hid (show Below w.heap.size w (wr.drewN nq) from bdrew H.out nq)
        generalize wr.drewN nq = W at *
        go_wp2
        go_ret
        rw [hs.out]
        exact ⟨rfl, H2.out⟩
    · obtain rfl : j = n := by omega
      have hs := Lib.hid (show F = true by rw [← HF.out]; exact decide_eq_true (take_all HN.out.1 HN.out.2 he.out))
      go_wp2
      go_ret
      rw [hs.out]
      exact ⟨rfl, H.out⟩
set_option maxRecDepth 100000 in
set_option maxHeartbeats 4000000 in
theorem eqS_any (a b : St) (A B : Option Addr) (n m c d : Nat) (w : World) (Ra : StR w A c a) (Rb : StR w B d b) (hn : a.length = n) (hm : b.length = m) : Calls Tryd.prog 44 #[.slice A n c, .slice B m d, .func (.func 45) #[] #[]] w fun en w' => en = .returned (.bool (decide (a = b))) ∧ Below w.heap.size w w' := by
  have hsa := Ra.sz hn
  have hsb := Rb.sz hm
  have HB0 := Lib.hid (b0 w)
  by_cases hnm : n ≠ m
  · have q0 : ((n : Int) != (m : Int)) = true := by simp; omega
    rw [decide_eq_false (show ¬ a = b from fun e => hnm (by rw [← hn, ← hm, e]))]
    clear Ra Rb hn hm hnm
    go_enter Tryd.func44, Tryd.ntmps44
    go_wp2
    go_ret
    exact ⟨rfl, HB0.out⟩
  obtain rfl : n = m := by omega
  have HA := Lib.hid Ra
  have HR := Lib.hid Rb
  have HN := Lib.hid (And.intro hn hm)
  have q0 : ((n : Int) != (n : Int)) = false := by simp
  obtain ⟨F, hF⟩ : ∃ F, decide (a = b) = F := ⟨_, rfl⟩
  rw [hF]
  have HF := Lib.hid hF
  clear Ra Rb hn hm hnm hF
  go_enter Tryd.func44, Tryd.ntmps44
  go_wp2
  go_loopw [17] (fun ι wr => ∃ j : Nat, j ≤ n ∧ ι = .int .i64 j ∧ a.take j = b.take j ∧ Hid (Below w.heap.size w wr)) (fun ι _ => n - (intOf ι).toNat)
  case atStart => exact ⟨0, Nat.zero_le _, rfl, by simp, HB0⟩
  case round =>
    obtain ⟨j, hj, rfl, he, H⟩ := hrel
    have he := Lib.hid he
    have hj0 : (0 : Int) ≤ (j : Int) := by omega
    by_cases hlt : (j : Int) < (n : Int)
    · obtain ⟨p, rfl, P, np, dp, hnp, x0, Wp⟩ := (HA.out.keep H.out).rd j (by have := HN.out; omega)
      obtain ⟨q, rfl, Q, nq, dq, hnq, y0, Wq⟩ := (HR.out.keep H.out).rd j (by have := HN.out; omega)
      have C := eqL_any _ _ P Q np nq dp dq wr Wp Wq hnp hnq
      clear Wp Wq hnp hnq
      by_cases hx : a.getD j [] = b.getD j []
      · have hs := Lib.hid (take_eq [] (by have := HN.out; omega) (by have := HN.out; omega) he.out hx)
        rw [decide_eq_true hx] at C
        have C := Lib.hid C
        clear hx
        go_wp2_with (go_at_call 45; (with_reducible refine (C.out).mono ?_); rintro e1 w2 ⟨rfl, b⟩; have H2 := Lib.hid (blw H.out b); clear b)
        go_roundw
        case rel => exact ⟨j + 1, by omega, by go_num, hs.out, H2⟩
        case measure => simp [intOf]; omega
      · have hs := Lib.hid (show F = false by rw [← HF.out]; exact decide_eq_false fun e => hx (by rw [e]))
        rw [decide_eq_false hx] at C
        have C := Lib.hid C
        clear hx
        go_wp2_with (go_at_call 45; (with_reducible refine (C.out).mono ?_); rintro e1 w2 ⟨rfl, b⟩; have H2 := Lib.hid (blw H.out b); clear b)
        go_ret
        rw [hs.out]
        exact ⟨rfl, H2.out⟩
    · obtain rfl : j = n := by omega
      have hs := Lib.hid (show F = true by rw [← HF.out]; exact decide_eq_true (take_all HN.out.1 HN.out.2 he.out))
      go_wp2
      go_ret
      rw [hs.out]
      exact ⟨rfl, H.out⟩
theorem PSame_any (a b : St) (A B : Option Addr) (n m c d : Nat) (w : World) (Ra : StR w A c a) (Rb : StR w B d b) (hn : a.length = n) (hm : b.length = m) : Calls Tryd.prog 18 #[.slice A n c, .slice B m d] w fun en w' => en = .returned (.bool (decide (a = b))) ∧ Below w.heap.size w w' := by
  have C := Lib.hid (eqS_any a b A B n m c d w Ra Rb hn hm)
  generalize decide (a = b) = F at *
  clear Ra Rb hn hm
  go_enter Tryd.func18, Tryd.ntmps18
  go_wp2_with (go_at_call 44; (with_reducible refine (C.out).mono ?_); rintro e1 w2 ⟨rfl, b⟩; have H2 := Lib.hid b; clear b)
  go_ret
  exact ⟨rfl, H2.out⟩
end Go.Proofs.YtblckajejohlbaaDoor
/- Stores of the call's own: lists in blocks apart from each other. -/
set_option linter.unusedVariables false
set_option linter.unusedSimpArgs false
namespace Go.Proofs.YtblckajejohlbaaDoor
open Go Go.RowKit L8 L22 L17
open L14 (inW)

def nilV : Value := .slice none 0 0
def wv (l : List Int) : List Value := l.map fun x => .int .i32 x
theorem wv_len (l : List Int) : (wv l).length = l.length := by unfold wv; rw [List.length_map]
theorem wv_at {l : List Int} {j : Nat} (h : j < l.length) : (wv l)[j]? = some (.int .i32 (l.getD j 0)) := by
  unfold wv
  simp [h]
theorem wv_one (l : List Int) : ∀ v ∈ wv l, v.oneCell' = true := by
  intro v hv
  obtain ⟨x, _, rfl⟩ := List.mem_map.1 hv
  rfl
theorem wv_set (l : List Int) (j : Nat) (x : Int) : (wv l).set j (.int .i32 x) = wv (l.set j x) := by
  unfold wv
  rw [List.map_set]
theorem words_info : (Tryd.prog.info? 21).map (fun i => (i.zero, i.size, i.bytes)) = some (some (.int .i32 0), 1, 4) := by kernel_rfl
theorem lists_info : (Tryd.prog.info? 54).map (fun i => (i.zero, i.size, i.bytes)) = some (some (.slice none 0 0), 1, 24) := by kernel_rfl
theorem wor_own {w : World} {B m d : Nat} {P : Option Addr} {l : List Int} (h : w.ownsRow B 21 1 (.slice P m d) m (wv l)) (hw : ∀ x ∈ l, inW x) : WoR w P d l := by
  have hl := h.1
  rw [wv_len] at hl
  rcases h.2 with ⟨hv, h0⟩ | ⟨g, cap, cur, hv, hB, hh, hnc, hm, hcs, hx⟩
  · injection hv with h1 h2 h3
    subst h1 h3
    obtain rfl : l = [] := List.eq_nil_of_length_eq_zero (by omega)
    exact WoR.nil w
  · injection hv with h1 h2 h3
    subst h1 h3
    exact ⟨by omega, hm, fun j hj => ⟨_, rfl, World.ownsRow.cells h rfl j _ (wv_at hj)⟩, hw⟩
/-- A store of the call's own. -/
structure OwS (w : World) (B : Nat) (A : Option Addr) (n c : Nat) (vs : List Value) (s : St) : Prop where
  own : w.ownsRow B 54 1 (.slice A n c) n vs
  len : s.length = n
  row : ∀ j, j < n → ∃ P d, vs.getD j nilV = .slice P (s.getD j []).length d ∧ w.ownsRow B 21 1 (vs.getD j nilV) (s.getD j []).length (wv (s.getD j []))
  ne : ∀ i j, i < n → j < n → i ≠ j → (vs.getD i nilV).ownBlock = none ∨ (vs.getD i nilV).ownBlock ≠ (vs.getD j nilV).ownBlock
  no : ∀ j, j < n → (vs.getD j nilV).ownBlock = none ∨ (vs.getD j nilV).ownBlock ≠ (Value.slice A n c).ownBlock
  wd : stW s
theorem OwS.vlen {w : World} {B n c : Nat} {A : Option Addr} {vs : List Value} {s : St} (h : OwS w B A n c vs s) : vs.length = n := by
  have := h.own.1
  omega
theorem OwS.kept {w w' : World} {B n c : Nat} {A : Option Addr} {vs : List Value} {s : St} {r : Option Nat} (h : OwS w B A n c vs s) (g : w.grownBy w' r) (ho : (Value.slice A n c).ownBlock = none ∨ (Value.slice A n c).ownBlock ≠ r) (hr : ∀ j, j < n → (vs.getD j nilV).ownBlock = none ∨ (vs.getD j nilV).ownBlock ≠ r) : OwS w' B A n c vs s :=
  ⟨h.own.kept g ho, h.len, fun j hj => by obtain ⟨P, d, e, k⟩ := h.row j hj; exact ⟨P, d, e, k.kept g (hr j hj)⟩, h.ne, h.no, h.wd⟩
theorem OwS.grown {w w' : World} {B n c : Nat} {A : Option Addr} {vs : List Value} {s : St} (h : OwS w B A n c vs s) (g : w.grownBy w' none) : OwS w' B A n c vs s :=
  h.kept g (by cases (Value.slice A n c).ownBlock <;> simp) (fun j hj => by cases (vs.getD j nilV).ownBlock <;> simp)
theorem OwS.keep {w w' : World} {B n c : Nat} {A : Option Addr} {vs : List Value} {s : St} (h : OwS w B A n c vs s) (b : Below w.heap.size w w') : OwS w' B A n c vs s := h.grown (g_of_below b)
theorem OwS.st {w : World} {B n c : Nat} {A : Option Addr} {vs : List Value} {s : St} (h : OwS w B A n c vs s) : StR w A c s := by
  have hl := h.len
  have hv := h.vlen
  rcases h.own.2 with ⟨hv', h0⟩ | ⟨g, cap, cur, hv', hB, hh, hnc, hm, hcs, hx⟩
  · injection hv' with h1 h2 h3
    subst h1 h3
    obtain rfl : s = [] := List.eq_nil_of_length_eq_zero (by omega)
    exact StR.nil w
  · injection hv' with h1 h2 h3
    subst h1 h3
    refine ⟨by omega, hm, fun j hj => ?_⟩
    obtain ⟨P, d, e, k⟩ := h.row j (by omega)
    refine ⟨_, rfl, P, _, d, rfl, World.ownsRow.cells h.own rfl j _ ?_, ?_⟩
    · rw [← e, List.getD_eq_getElem?_getD, List.getElem?_eq_getElem (by omega)]; rfl
    · rw [e] at k
      exact wor_own k (h.wd _ (by rcases getD_mem_or s [] j with k | k
                                  · exact k
                                  · rw [List.getD_eq_getElem?_getD, List.getElem?_eq_getElem hj]; exact List.getElem_mem hj))
theorem OwS.ge {w : World} {B n c : Nat} {A : Option Addr} {vs : List Value} {s : St} (h : OwS w B A n c vs s) : ∀ k, (Value.slice A n c).ownBlock = some k → B ≤ k ∧ k < w.heap.size := h.own.lt
theorem OwS.lt {w : World} {B n c : Nat} {A : Option Addr} {vs : List Value} {s : St} (h : OwS w B A n c vs s) {j : Nat} (hj : j < n) : ∀ k, (vs.getD j nilV).ownBlock = some k → B ≤ k ∧ k < w.heap.size := by
  obtain ⟨P, d, e, k⟩ := h.row j hj
  exact k.lt
theorem OwS.out {w : World} {B n c : Nat} {A : Option Addr} {vs : List Value} {s : St} (h : OwS w B A n c vs s) (hn : 0 < n) : ∃ g, A = some ⟨g, 0, none⟩ ∧ B ≤ g ∧ g < w.heap.size := by
  obtain ⟨g, cap, e, h1, h2⟩ := h.own.form hn
  injection e with e1 e2 e3
  exact ⟨g, e1, h1, h2⟩
theorem stW_set {s : St} (h : stW s) (k : Nat) {l : List Int} (hl : ∀ x ∈ l, inW x) : stW (s.set k l) := fun y hy x hx => by
  rcases List.mem_or_eq_of_mem_set hy with h1 | h1
  · exact h y h1 x hx
  · rw [h1] at hx; exact hl x hx
theorem w_set {l : List Int} (h : ∀ x ∈ l, inW x) (j : Nat) {x : Int} (hx : inW x) : ∀ y ∈ l.set j x, inW y := fun y hy => by
  rcases List.mem_or_eq_of_mem_set hy with h1 | h1
  · exact h y h1
  · rw [h1]; exact hx
theorem stW_get {s : St} (h : stW s) (k : Nat) : ∀ x ∈ s.getD k [], inW x := fun x hx => by
  rcases getD_mem_or s [] k with h1 | h1
  · exact h _ h1 x hx
  · rw [h1] at hx; cases hx
theorem set_getD {α : Type} {l : List α} {k j : Nat} {x d : α} (h : k < l.length) : (l.set k x).getD j d = if j = k then x else l.getD j d := by
  by_cases e : j = k
  · subst e; rw [if_pos rfl, getD_set_self h]
  · rw [if_neg e, L17.getD_set_ne e]
/-- A word is written. -/
theorem OwS.wr {w : World} {B n c : Nat} {A : Option Addr} {vs : List Value} {s : St} (h : OwS w B A n c vs s) {k j : Nat} (hk : k < n) (hj : j < (s.getD k []).length) : ∃ g d, vs.getD k nilV = .slice (some ⟨g, 0, none⟩) (s.getD k []).length d ∧ B ≤ g ∧ g < w.heap.size ∧ w.cell? ⟨g, j, none⟩ = some (.int .i32 ((s.getD k []).getD j 0)) ∧ w.frozen? ⟨g, j, none⟩ = false ∧
    ∀ x, inW x → OwS (w.setCell ⟨g, j, none⟩ (.int .i32 x)) B A n c vs (s.set k ((s.getD k []).set j x)) ∧ w.grownBy (w.setCell ⟨g, j, none⟩ (.int .i32 x)) (some g) := by
  obtain ⟨P, d, e, r⟩ := h.row k hk
  rw [e] at r
  obtain ⟨g, cap, e2, h1, h2⟩ := r.form (by omega)
  injection e2 with e1 e2 e3
  subst e1 e3
  have hs : k < s.length := by rw [h.len]; exact hk
  refine ⟨g, d, e, h1, h2, ?_, r.frozenAt j, fun x hx => ?_⟩
  · rw [r.cellAt j (by omega), wv_at hj]
  obtain ⟨q1, q2⟩ := r.stored j (.int .i32 x)
  rw [wv_set] at q1
  have eb : (vs.getD k nilV).ownBlock = some g := by rw [e]; rfl
  refine ⟨⟨h.own.kept q2 ?_, by rw [List.length_set]; exact h.len, fun i hi => ?_, h.ne, h.no, stW_set h.wd _ (w_set (stW_get h.wd k) j hx)⟩, q2⟩
  · rcases h.no k hk with h' | h'
    · rw [eb] at h'; cases h'
    · rw [eb] at h'; exact .inr fun e => h' e.symm
  · rw [set_getD hs]
    by_cases hik : i = k
    · subst hik
      rw [if_pos rfl, e, List.length_set]
      exact ⟨_, d, rfl, q1⟩
    · rw [if_neg hik]
      obtain ⟨P', d', e', r'⟩ := h.row i hi
      refine ⟨P', d', e', r'.kept q2 ?_⟩
      rcases h.ne i k hi hk hik with h' | h'
      · exact .inl h'
      · rw [eb] at h'; exact .inr h'
/-- A new list is stored. -/
theorem OwS.fill {w : World} {B n c g : Nat} {vs : List Value} {s : St} (h : OwS w B (some ⟨g, 0, none⟩) n c vs s) {k : Nat} (hk : k < n) {P : Option Addr} {d : Nat} {l : List Int} (r : w.ownsRow B 21 1 (.slice P l.length d) l.length (wv l)) (hl : ∀ x ∈ l, inW x)
    (hf : (Value.slice P l.length d).ownBlock = none ∨ ((Value.slice P l.length d).ownBlock ≠ some g ∧ ∀ j, j < n → (Value.slice P l.length d).ownBlock ≠ (vs.getD j nilV).ownBlock)) :
    OwS (w.setCell ⟨g, k, none⟩ (.slice P l.length d)) B (some ⟨g, 0, none⟩) n c (vs.set k (.slice P l.length d)) (s.set k l) ∧ w.grownBy (w.setCell ⟨g, k, none⟩ (.slice P l.length d)) (some g) := by
  obtain ⟨q1, q2⟩ := h.own.stored k (.slice P l.length d)
  have hs : k < s.length := by rw [h.len]; exact hk
  have hv : k < vs.length := by rw [h.vlen]; exact hk
  have no : ∀ j, j < n → (vs.getD j nilV).ownBlock = none ∨ (vs.getD j nilV).ownBlock ≠ some g := h.no
  refine ⟨⟨q1, by rw [List.length_set]; exact h.len, fun i hi => ?_, fun i j hi hj hij => ?_, fun j hj => ?_, stW_set h.wd _ hl⟩, q2⟩
  · rw [set_getD hs, set_getD hv]
    by_cases hik : i = k
    · rw [if_pos hik, if_pos hik]
      exact ⟨P, d, rfl, r.kept q2 (hf.imp id fun h => h.1)⟩
    · rw [if_neg hik, if_neg hik]
      obtain ⟨P', d', e', r'⟩ := h.row i hi
      exact ⟨P', d', e', r'.kept q2 (no i hi)⟩
  · rw [set_getD hv, set_getD hv]
    by_cases hik : i = k
    · rw [if_pos hik, if_neg (fun e => hij (by rw [hik, e]))]
      exact hf.imp id fun h => h.2 j hj
    · rw [if_neg hik]
      by_cases hjk : j = k
      · rw [if_pos hjk]
        rcases hf with hf | hf
        · rw [hf]; cases (vs.getD i nilV).ownBlock <;> simp
        · exact .inr fun e => hf.2 i hi e.symm
      · rw [if_neg hjk]; exact h.ne i j hi hj hij
  · rw [set_getD hv]
    by_cases hjk : j = k
    · rw [if_pos hjk]; exact hf.imp id fun h => h.1
    · rw [if_neg hjk]; exact h.no j hj
/-- A list is appended. -/
theorem OwS.push {w w' : World} {B n c g c' : Nat} {A P : Option Addr} {d : Nat} {vs : List Value} {s : St} {l : List Int} (h : OwS w B A n c vs s) (r : w.ownsRow B 21 1 (.slice P l.length d) l.length (wv l)) (hl : ∀ x ∈ l, inW x)
    (hf : (Value.slice P l.length d).ownBlock = none ∨ ((Value.slice P l.length d).ownBlock ≠ (Value.slice A n c).ownBlock ∧ ∀ j, j < n → (Value.slice P l.length d).ownBlock ≠ (vs.getD j nilV).ownBlock))
    (o : w'.ownsRow B 54 1 (.slice (some ⟨g, 0, none⟩) (n + 1) c') (n + 1) (vs ++ [.slice P l.length d])) (gr : w.grownBy w' (Value.slice A n c).ownBlock) (hg : (Value.slice A n c).ownBlock = some g ∨ w.heap.size ≤ g) : OwS w' B (some ⟨g, 0, none⟩) (n + 1) c' (vs ++ [.slice P l.length d]) (s ++ [l]) := by
  have hl1 := h.len
  have hl2 := h.vlen
  have g1 : ∀ j, j < n → (vs ++ [Value.slice P l.length d]).getD j nilV = vs.getD j nilV := fun j hj => by
    rw [List.getD_eq_getElem?_getD, List.getElem?_append_left (by omega), List.getD_eq_getElem?_getD]
  have g2 : (vs ++ [Value.slice P l.length d]).getD n nilV = .slice P l.length d := by
    rw [List.getD_eq_getElem?_getD, List.getElem?_append_right (by omega), hl2, Nat.sub_self]; rfl
  have s1 : ∀ j, j < n → (s ++ [l]).getD j [] = s.getD j [] := fun j hj => by
    rw [List.getD_eq_getElem?_getD, List.getElem?_append_left (by omega), List.getD_eq_getElem?_getD]
  have s2 : (s ++ [l]).getD n [] = l := by
    rw [List.getD_eq_getElem?_getD, List.getElem?_append_right (by omega), hl1, Nat.sub_self]; rfl
  have ng : ∀ (v : Value) , (∀ k, v.ownBlock = some k → k < w.heap.size) → (v.ownBlock = none ∨ v.ownBlock ≠ (Value.slice A n c).ownBlock) → v.ownBlock = none ∨ v.ownBlock ≠ some g := fun v hk hv => by
    rcases hv with hv | hv
    · exact .inl hv
    · rcases hg with hg | hg
      · exact .inr (by rw [← hg]; exact hv)
      · exact .inr fun e => by have := hk g e; omega
  refine ⟨o, by rw [List.length_append, hl1]; rfl, fun j hj => ?_, fun i j hi hj hij => ?_, fun j hj => ?_, fun y hy => ?_⟩
  · by_cases hjn : j < n
    · rw [g1 j hjn, s1 j hjn]
      obtain ⟨P', d', e', r'⟩ := h.row j hjn
      exact ⟨P', d', e', r'.kept gr (h.no j hjn)⟩
    · obtain rfl : j = n := by omega
      rw [g2, s2]
      exact ⟨P, d, rfl, r.kept gr (hf.imp id fun h => h.1)⟩
  · by_cases hin : i < n
    · rw [g1 i hin]
      by_cases hjn : j < n
      · rw [g1 j hjn]; exact h.ne i j hin hjn hij
      · obtain rfl : j = n := by omega
        rw [g2]
        rcases hf with hf | hf
        · rw [hf]; cases (vs.getD i nilV).ownBlock <;> simp
        · exact .inr fun e => hf.2 i hin e.symm
    · obtain rfl : i = n := by omega
      rw [g2, g1 j (by omega)]
      exact hf.imp id fun h => h.2 j (by omega)
  · by_cases hjn : j < n
    · rw [g1 j hjn]
      exact ng _ (fun k hk => (h.lt hjn k hk).2) (h.no j hjn)
    · obtain rfl : j = n := by omega
      rw [g2]
      exact ng _ (fun k hk => (r.lt k hk).2) (hf.imp id fun h => h.1)
  · rcases List.mem_append.1 hy with hy | hy
    · exact h.wd y hy
    · rw [List.mem_singleton.1 hy]; exact hl
theorem OwS.nil (w : World) (B : Nat) : OwS w B none 0 0 [] [] := ⟨World.ownsRow_nil w B _ 1, rfl, fun j h => absurd h (by omega), fun i j h => absurd h (by omega), fun j h => absurd h (by omega), fun _ h => by cases h⟩
theorem rep_getD {α : Type} (n j : Nat) (d : α) : (List.replicate n d).getD j d = d := by
  rw [List.getD_eq_getElem?_getD]
  by_cases h : j < n
  · simp [h]
  · rw [List.getElem?_eq_none (by rw [List.length_replicate]; omega)]; rfl
/-- make: all lists empty. -/
theorem OwS.made {w : World} {B n c : Nat} {A : Option Addr} (o : w.ownsRow B 54 1 (.slice A n c) n (List.replicate n nilV)) : OwS w B A n c (List.replicate n nilV) (List.replicate n []) :=
  ⟨o, List.length_replicate, fun j hj => by rw [rep_getD, rep_getD]; exact ⟨none, 0, rfl, World.ownsRow_nil w B _ 1⟩, fun i j _ _ _ => .inl (by rw [rep_getD]; rfl), fun j _ => .inl (by rw [rep_getD]; rfl),
    fun y hy x hx => by rw [(List.mem_replicate.1 hy).2] at hx; cases hx⟩
/-- The lists up to one are filled. -/
def upS (s : St) (n j : Nat) : St := s.take j ++ List.replicate (n - j) []
theorem upS_len {s : St} {n j : Nat} (h : s.length = n) (hj : j ≤ n) : (upS s n j).length = n := by unfold upS; rw [List.length_append, List.length_take, List.length_replicate]; omega
theorem upS_next {s : St} {n j : Nat} (h : s.length = n) (hj : j < n) : (upS s n j).set j (s.getD j []) = upS s n (j + 1) := by
  unfold upS
  apply List.ext_getElem?
  intro i
  by_cases hi : i = j
  · subst hi
    rw [List.getElem?_set_self (by rw [List.length_append, List.length_take, List.length_replicate]; omega), List.getElem?_append_left (by rw [List.length_take]; omega), List.getElem?_take, if_pos (by omega), List.getD_eq_getElem?_getD, List.getElem?_eq_getElem (by omega)]
    rfl
  · rw [List.getElem?_set_ne (by omega)]
    by_cases hij : i < j
    · rw [List.getElem?_append_left (by rw [List.length_take]; omega), List.getElem?_append_left (by rw [List.length_take]; omega), List.getElem?_take, List.getElem?_take, if_pos hij, if_pos (by omega)]
    · rw [List.getElem?_append_right (by rw [List.length_take]; omega), List.getElem?_append_right (by rw [List.length_take]; omega), List.length_take, List.length_take, List.getElem?_replicate, List.getElem?_replicate]
      by_cases hin : i < n
      · rw [if_pos (by omega), if_pos (by omega)]
      · rw [if_neg (by omega), if_neg (by omega)]
theorem upS_zero (s : St) (n : Nat) : upS s n 0 = List.replicate n [] := by unfold upS; simp
theorem upS_all {s : St} {n : Nat} (h : s.length = n) : upS s n n = s := by unfold upS; rw [← h, List.take_length]; simp
theorem upS_at {s : St} {n j : Nat} (h : s.length = n) (hj : j < n) : (upS s n j).getD j [] = [] := by
  unfold upS
  rw [List.getD_eq_getElem?_getD, List.getElem?_append_right (by rw [List.length_take]; omega), List.length_take, List.getElem?_replicate]
  split <;> rfl
end Go.Proofs.YtblckajejohlbaaDoor
/- The program: sound variables, elements that they may hold. -/
set_option linter.unusedVariables false
set_option linter.unusedSimpArgs false
namespace Go.Proofs.YtblckajejohlbaaDoor
open Go Go.RowKit L8 L22 L17
open L14 (inW)

/-- A slice of variables that can be read. -/
structure VaR (w : World) (A : Option Addr) (c : Nat) (l : List Vr) : Prop where
  le : l.length ≤ c
  mx : c ≤ maxLen
  rd : ∀ j, j < l.length → ∃ a, A = some a ∧ w.cell? (a.add (j * 2)) = some (.int .u8 ((l.getD j v0).1 : Int)) ∧ w.cell? ⟨(a.add (j * 2)).block, (a.add (j * 2)).off + 1, none⟩ = some (.int .i64 (l.getD j v0).2)
  ok : ∀ x ∈ l, x.1 < 256 ∧ -9223372036854775808 ≤ x.2 ∧ x.2 ≤ 9223372036854775807
theorem VaR.keep {w w' : World} {A : Option Addr} {c : Nat} {l : List Vr} (h : VaR w A c l) (b : Below w.heap.size w w') : VaR w' A c l :=
  ⟨h.le, h.mx, fun j hj => by obtain ⟨a, e, h0, h1⟩ := h.rd j hj; exact ⟨a, e, (b.cell (g_lt h0)).trans h0, (b.cell (g_lt h1)).trans h1⟩, h.ok⟩
theorem VaR.sz {w : World} {A : Option Addr} {c : Nat} {l : List Vr} (h : VaR w A c l) {n : Nat} (hn : l.length = n) : (n : Int) ≤ 9223372036854775807 := by
  have := h.le
  have := h.mx
  unfold maxLen at this
  omega
theorem VaR.at {w : World} {A : Option Addr} {c : Nat} {l : List Vr} (h : VaR w A c l) {j : Nat} (hj : j < l.length) : (l.getD j v0).1 < 256 ∧ -9223372036854775808 ≤ (l.getD j v0).2 ∧ (l.getD j v0).2 ≤ 9223372036854775807 :=
  h.ok _ (by rw [List.getD_eq_getElem?_getD, List.getElem?_eq_getElem hj]; exact List.getElem_mem hj)
abbrev vrV (x : Vr) : Value := .agg #[.int .u8 (x.1 : Int), .int .i64 x.2]
def vrC (x : Vr) : Array Value := #[.int .u8 (x.1 : Int), .int .i64 x.2]
theorem box2v {W : World} {q : Nat} {t : TypeId} {a b : Value} (h : BoxS W q t #[a, b]) : W.cell? ⟨q, 0, none⟩ = some a ∧ W.cell? ⟨q, 1, none⟩ = some b := ⟨(h.cell 0).trans rfl, (h.cell 1).trans rfl⟩
theorem IsValue_any (k : Nat) (hk : k < 256) (w : World) : Calls Tryd.prog 59 #[.int .u8 (k : Int)] w fun en w' => en = .returned (.bool (decide (1 ≤ k) && decide (k ≤ 3))) ∧ w = w' := by
  have q0 : decide ((1 : Int) ≤ (k : Int)) = decide (1 ≤ k) := decide_eq_decide.2 (by omega)
  have q1 : decide ((k : Int) ≤ (3 : Int)) = decide (k ≤ 3) := decide_eq_decide.2 (by omega)
  generalize decide (1 ≤ k) = p at *
  generalize decide (k ≤ 3) = q at *
  go_enter Tryd.func59, Tryd.ntmps59
  cases p <;> cases q <;> (go_wp2; go_ret; exact ⟨rfl, rfl⟩)
set_option maxRecDepth 100000 in
set_option maxHeartbeats 4000000 in
theorem Sound1_any (x : Vr) (hx : x.1 < 256) (w : World) : Calls Tryd.prog 58 #[vrV x] w fun en w' => en = .returned (.bool (!sndV x)) ∧ Below w.heap.size w w' := by
  have HB := Lib.hid (bal (b0 w) (.cells (vrC x) 79))
  obtain ⟨p0, p1⟩ := box2v (boxS_new w 79 (vrC x))
  have C := Lib.hid fun W => IsValue_any x.1 hx W
  obtain ⟨a, ha⟩ : ∃ a, (decide (1 ≤ x.1) && decide (x.1 ≤ 3)) = a := ⟨_, rfl⟩
  obtain ⟨b, hb⟩ : ∃ b, decide (x.2 < (0 : Int)) = b := ⟨_, rfl⟩
  obtain ⟨c, hc⟩ : ∃ c, decide ((64 : Int) < x.2) = c := ⟨_, rfl⟩
  have e : (!sndV x) = (!a || (b || c)) := by
    rw [← ha, ← hb, ← hc]
    unfold sndV
    rw [Bool.eq_iff_iff]
    simp only [Bool.not_eq_true', Bool.and_eq_false_iff, Bool.or_eq_true, Bool.not_eq_true', decide_eq_true_eq, decide_eq_false_iff_not, Bool.and_eq_true]
    omega
  rw [e]
  rw [ha] at C
  clear e ha hx
  unfold vrC at *
  go_enter Tryd.func58, Tryd.ntmps58
  cases a <;> cases b <;> cases c <;> (go_wp2_with (go_at_call 59; (with_reducible refine (C.out _).mono ?_); rintro en w' ⟨rfl, rfl⟩); go_ret; exact ⟨rfl, HB.out⟩)
/-- The first that something holds of, or none. -/
def FirstR (b : Bool) (r : Int) : Prop := -1 ≤ r ∧ decide (0 ≤ r) = b
theorem any_take {α : Type} {l : List α} {p : α → Bool} {j : Nat} (d : α) (hj : j < l.length) (h : (l.take j).any p = false) (hp : p (l.getD j d) = false) : (l.take (j + 1)).any p = false := by
  rw [List.take_succ_eq_append_getElem hj, List.any_append, h]
  rw [List.getD_eq_getElem?_getD, List.getElem?_eq_getElem hj] at hp
  simpa using hp
theorem any_yes {α : Type} {l : List α} {p : α → Bool} {j : Nat} (d : α) (hj : j < l.length) (hp : p (l.getD j d) = true) : l.any p = true := by
  rw [List.any_eq_true]
  rw [List.getD_eq_getElem?_getD, List.getElem?_eq_getElem hj] at hp
  exact ⟨l[j], List.getElem_mem hj, hp⟩
set_option maxRecDepth 100000 in
set_option maxHeartbeats 4000000 in
theorem IndexV_any (l : List Vr) (A : Option Addr) (n c : Nat) (w : World) (R : VaR w A c l) (hn : l.length = n) : Calls Tryd.prog 80 #[.slice A n c, .func (.func 58) #[] #[]] w fun en w' => (∃ r, en = .returned (.int .i64 r) ∧ FirstR (l.any fun x => !sndV x) r) ∧ Below w.heap.size w w' := by
  have hsz := R.sz hn
  have HR := Lib.hid R
  have HN := Lib.hid hn
  have HB0 := Lib.hid (b0 w)
  obtain ⟨F, hF⟩ : ∃ F, (l.any fun x => !sndV x) = F := ⟨_, rfl⟩
  rw [hF]
  have HF := Lib.hid hF
  clear R hn hF
  go_enter Tryd.func80, Tryd.ntmps80
  go_wp2
  go_loopw [8] (fun ι wr => ∃ j : Nat, j ≤ n ∧ ι = .int .i64 j ∧ Hid ((l.take j).any (fun x => !sndV x) = false) ∧ Hid (Below w.heap.size w wr)) (fun ι _ => n - (intOf ι).toNat)
  case atStart => exact ⟨0, Nat.zero_le _, rfl, Lib.hid (by simp), HB0⟩
  case round =>
    obtain ⟨j, hj, rfl, HA, H⟩ := hrel
    have hj0 : (0 : Int) ≤ (j : Int) := by omega
    by_cases hlt : (j : Int) < (n : Int)
    · have hjn : j < l.length := by have := HN.out; omega
      obtain ⟨a, rfl, x0, x1⟩ := (HR.out.keep H.out).rd j hjn
      have C := Sound1_any (l.getD j v0) (HR.out.at hjn).1 wr
      cases hs : (!sndV (l.getD j v0)) with
      | true =>
        have hf := Lib.hid (show F = true by rw [← HF.out]; exact any_yes v0 hjn hs)
        rw [hs] at C
        have C := Lib.hid C
        clear hs
        generalize l.getD j v0 = y at *
        go_wp2_with (go_at_call 58; (with_reducible refine (C.out).mono ?_); rintro en w2 ⟨rfl, b⟩; have H2 := Lib.hid (blw H.out b); clear b)
        go_ret
        rw [hf.out]
        exact ⟨⟨_, rfl, by omega, decide_eq_true hj0⟩, H2.out⟩
      | false =>
        have hf := Lib.hid (any_take v0 hjn HA.out hs)
        rw [hs] at C
        have C := Lib.hid C
        clear hs
        generalize l.getD j v0 = y at *
        go_wp2_with (go_at_call 58; (with_reducible refine (C.out).mono ?_); rintro en w2 ⟨rfl, b⟩; have H2 := Lib.hid (blw H.out b); clear b)
        go_roundw
        case rel => exact ⟨j + 1, by omega, by go_num, hf, H2⟩
        case measure => simp [intOf]; omega
    · obtain rfl : j = n := by omega
      have hf := Lib.hid (show F = false by rw [← HF.out, ← HA.out, ← HN.out, List.take_length])
      go_wp2
      go_ret
      rw [hf.out]
      exact ⟨⟨_, rfl, by omega, by decide⟩, H.out⟩
set_option maxRecDepth 100000 in
theorem ContainsV_any (l : List Vr) (A : Option Addr) (n c : Nat) (w : World) (R : VaR w A c l) (hn : l.length = n) : Calls Tryd.prog 57 #[.slice A n c, .func (.func 58) #[] #[]] w fun en w' => en = .returned (.bool (l.any fun x => !sndV x)) ∧ Below w.heap.size w w' := by
  have C := Lib.hid (IndexV_any l A n c w R hn)
  generalize (l.any fun x => !sndV x) = F at *
  clear R hn
  go_enter Tryd.func57, Tryd.ntmps57
  go_wp2_with (go_at_call 80; (with_reducible refine (C.out).mono ?_); rintro en w2 ⟨⟨r, rfl, h1, h2⟩, b⟩; have H2 := Lib.hid b; clear b)
  go_ret
  exact ⟨rfl, H2.out⟩
theorem AreSound_any (l : List Vr) (A : Option Addr) (n c : Nat) (w : World) (R : VaR w A c l) (hn : l.length = n) : Calls Tryd.prog 37 #[.slice A n c] w fun en w' => en = .returned (.bool (sndL l)) ∧ Below w.heap.size w w' := by
  have hsz := R.sz hn
  have C := Lib.hid (ContainsV_any l A n c w R hn)
  have HB := Lib.hid (b0 w)
  have e : sndL l = (decide (n ≤ 256) && !(l.any fun x => !sndV x)) := by
    unfold sndL
    rw [hn]
    congr 1
    rw [List.all_eq_not_any_not]
  rw [e]
  obtain ⟨p, hp⟩ : ∃ p, decide (n ≤ 256) = p := ⟨_, rfl⟩
  have q0 : decide ((n : Int) ≤ (256 : Int)) = p := by rw [← hp]; exact decide_eq_decide.2 (by omega)
  rw [hp]
  generalize (l.any fun x => !sndV x) = F at *
  clear R hn e hp
  go_enter Tryd.func37, Tryd.ntmps37
  cases p
  · go_wp2
    go_ret
    exact ⟨rfl, HB.out⟩
  · go_wp2_with (go_at_call 57; (with_reducible refine (C.out).mono ?_); rintro en w2 ⟨rfl, b⟩; have H2 := Lib.hid b; clear b)
    go_ret
    exact ⟨by simp, H2.out⟩
/-! ### Elements of a variable -/
theorem Elements_any (x : Vr) (hs : sndV x = true) (w : World) : Calls Tryd.prog 38 #[vrV x] w fun en w' => en = .returned (.int .i64 (lngV x : Int)) ∧ Below w.heap.size w w' := by
  have HB := Lib.hid (bal (b0 w) (.cells (vrC x) 79))
  obtain ⟨p0, p1⟩ := box2v (boxS_new w 79 (vrC x))
  have h0 : 0 ≤ x.2 ∧ x.2 ≤ 64 := by unfold sndV at hs; simp only [Bool.and_eq_true, decide_eq_true_eq] at hs; omega
  obtain ⟨L, hL⟩ : ∃ L : Int, ((lngV x : Nat) : Int) = L := ⟨_, rfl⟩
  obtain ⟨h1, h2⟩ := h0
  have e1 := Lib.hid (show x.2 < 1 → L = 1 from fun h => by rw [← hL]; unfold lngV; rw [if_pos (by omega)]; rfl)
  have e2 := Lib.hid (show 1 ≤ x.2 → L = x.2 from fun h => by rw [← hL]; unfold lngV; rw [if_neg (by omega)]; omega)
  rw [hL]
  unfold vrC at *
  clear hs hL
  go_enter Tryd.func38, Tryd.ntmps38
  go_wp2
  all_goals (go_ret; exact ⟨congrArg (fun x => Ending.returned (.int .i64 x)) (by first | exact (e1.out (by omega)).symm | exact (e2.out (by omega)).symm), HB.out⟩)
end Go.Proofs.YtblckajejohlbaaDoor
/- The program: which stores a kernel may have; the zero store. -/
set_option linter.unusedVariables false
set_option linter.unusedSimpArgs false
namespace Go.Proofs.YtblckajejohlbaaDoor
open Go Go.RowKit L8 L22 L17
open L14 (inW)

theorem snd_k {x : Vr} (h : sndV x = true) : 1 ≤ x.1 ∧ x.1 ≤ 3 := by unfold sndV at h; simp only [Bool.and_eq_true, decide_eq_true_eq] at h; omega
theorem snd_l {x : Vr} (h : sndV x = true) : lngV x ≤ 64 := by unfold sndV at h; simp only [Bool.and_eq_true, decide_eq_true_eq] at h; unfold lngV; split <;> omega
theorem snd_in {l : List Vr} (h : sndL l = true) {j : Nat} (hj : j < l.length) : sndV (l.getD j v0) = true := by
  unfold sndL at h
  rw [Bool.and_eq_true] at h
  refine List.all_eq_true.1 h.2 _ ?_
  rw [List.getD_eq_getElem?_getD, List.getElem?_eq_getElem hj]; exact List.getElem_mem hj
theorem snd_n {l : List Vr} (h : sndL l = true) : l.length ≤ 256 := by unfold sndL at h; rw [Bool.and_eq_true, decide_eq_true_eq] at h; exact h.1
set_option maxRecDepth 100000 in
set_option maxHeartbeats 4000000 in
theorem Hold1_any (x : Vr) (hs : sndV x = true) (y : Int) (q : Nat) (w : World) (B : BoxS w q 79 (vrC x)) : Calls Tryd.prog 61 #[.int .i32 y, .pointer (some ⟨q, 0, none⟩)] w fun en w' => en = .returned (.bool (!fitV x.1 y)) ∧ w = w' := by
  have C := Lib.hid (Fits_any x.1 y (snd_k hs) w)
  unfold vrC at B
  obtain ⟨p0, p1⟩ := box2v B
  generalize fitV x.1 y = F at *
  clear B hs
  go_enter Tryd.func61, Tryd.ntmps61
  go_wp2_with (go_at_call 62; (with_reducible refine (C.out).mono ?_); rintro en w2 ⟨rfl, rfl⟩)
  go_ret
  exact ⟨rfl, rfl⟩
/-- A world in which a variable lies in a box. -/
def VB (w X : World) (x : Vr) (q : Nat) : Prop := Below w.heap.size w X ∧ BoxS X q 79 (vrC x)
theorem VB.step {w X Y : World} {x : Vr} {q : Nat} (h : VB w X x q) (b : Below X.heap.size X Y) : VB w Y x q := ⟨blw h.1 b, h.2.below b⟩
set_option maxRecDepth 100000 in
set_option maxHeartbeats 4000000 in
theorem IndexH_any (x : Vr) (hs : sndV x = true) (l : List Int) (A : Option Addr) (n c q : Nat) (w : World) (R : WoR w A c l) (B : BoxS w q 79 (vrC x)) (hn : l.length = n) : Calls Tryd.prog 81 #[.slice A n c, .func (.func 61) #[] #[.pointer (some ⟨q, 0, none⟩)]] w fun en w' => (∃ r, en = .returned (.int .i64 r) ∧ FirstR (l.any fun y => !fitV x.1 y) r) ∧ Below w.heap.size w w' := by
  have hsz : (n : Int) ≤ 9223372036854775807 := by have := R.le; have := R.mx; unfold maxLen at this; omega
  have HR := Lib.hid R
  have HN := Lib.hid hn
  have HB0 := Lib.hid (show VB w w x q from ⟨b0 w, B⟩)
  obtain ⟨F, hF⟩ : ∃ F, (l.any fun y => !fitV x.1 y) = F := ⟨_, rfl⟩
  rw [hF]
  have HF := Lib.hid hF
  clear R hn hF B
  go_enter Tryd.func81, Tryd.ntmps81
  go_wp2
  go_loopw [8] (fun ι wr => ∃ j : Nat, j ≤ n ∧ ι = .int .i64 j ∧ Hid ((l.take j).any (fun y => !fitV x.1 y) = false) ∧ Hid (VB w wr x q)) (fun ι _ => n - (intOf ι).toNat)
  case atStart => exact ⟨0, Nat.zero_le _, rfl, Lib.hid (by simp), HB0⟩
  case round =>
    obtain ⟨j, hj, rfl, HA, H⟩ := hrel
    have hj0 : (0 : Int) ≤ (j : Int) := by omega
    by_cases hlt : (j : Int) < (n : Int)
    · have hjn : j < l.length := by have := HN.out; omega
      obtain ⟨a, rfl, x0⟩ := (HR.out.keep H.out.1).rd j hjn
      have C := Hold1_any x hs (l.getD j 0) q wr H.out.2
      cases hz : (!fitV x.1 (l.getD j 0)) with
      | true =>
        have hf := Lib.hid (show F = true by rw [← HF.out]; exact any_yes 0 hjn hz)
        rw [hz] at C
        have C := Lib.hid C
        clear hz
        generalize l.getD j 0 = y at *
        go_wp2_with (go_at_call 61; (with_reducible refine (C.out).mono ?_); rintro en w2 ⟨rfl, rfl⟩)
        go_ret
        rw [hf.out]
        exact ⟨⟨_, rfl, by omega, decide_eq_true hj0⟩, H.out.1⟩
      | false =>
        have hf := Lib.hid (any_take 0 hjn HA.out hz)
        rw [hz] at C
        have C := Lib.hid C
        clear hz
        generalize l.getD j 0 = y at *
        go_wp2_with (go_at_call 61; (with_reducible refine (C.out).mono ?_); rintro en w2 ⟨rfl, rfl⟩)
        go_roundw
        case rel => exact ⟨j + 1, by omega, by go_num, hf, H⟩
        case measure => simp [intOf]; omega
    · obtain rfl : j = n := by omega
      have hf := Lib.hid (show F = false by rw [← HF.out, ← HA.out, ← HN.out, List.take_length])
      go_wp2
      go_ret
      rw [hf.out]
      exact ⟨⟨_, rfl, by omega, by decide⟩, H.out.1⟩
set_option maxRecDepth 100000 in
theorem ContainsH_any (x : Vr) (hs : sndV x = true) (l : List Int) (A : Option Addr) (n c q : Nat) (w : World) (R : WoR w A c l) (B : BoxS w q 79 (vrC x)) (hn : l.length = n) : Calls Tryd.prog 60 #[.slice A n c, .func (.func 61) #[] #[.pointer (some ⟨q, 0, none⟩)]] w fun en w' => en = .returned (.bool (l.any fun y => !fitV x.1 y)) ∧ Below w.heap.size w w' := by
  have C := Lib.hid (IndexH_any x hs l A n c q w R B hn)
  generalize (l.any fun y => !fitV x.1 y) = F at *
  clear R B hn
  go_enter Tryd.func60, Tryd.ntmps60
  go_wp2_with (go_at_call 81; (with_reducible refine (C.out).mono ?_); rintro en w2 ⟨⟨r, rfl, h1, h2⟩, b⟩; have H2 := Lib.hid b; clear b)
  go_ret
  exact ⟨rfl, H2.out⟩
set_option maxRecDepth 100000 in
set_option maxHeartbeats 4000000 in
theorem MayHold_any (x : Vr) (hs : sndV x = true) (l : List Int) (A : Option Addr) (n c : Nat) (w : World) (R : WoR w A c l) (hn : l.length = n) : Calls Tryd.prog 42 #[vrV x, .slice A n c] w fun en w' => en = .returned (.bool (rowV x l)) ∧ Below w.heap.size w w' := by
  have hsz : (n : Int) ≤ 9223372036854775807 := by have := R.le; have := R.mx; unfold maxLen at this; omega
  have HV := Lib.hid (show VB w (w.alloc (.cells (vrC x) 79)) x w.heap.size from ⟨bal (b0 w) _, boxS_new w _ _⟩)
  obtain ⟨p0, p1⟩ := box2v (boxS_new w 79 (vrC x))
  have CE := Lib.hid fun W => Elements_any x hs W
  have CC := Lib.hid fun X (H : Hid (VB w X x w.heap.size)) => ContainsH_any x hs l A n c w.heap.size X (R.keep H.out.1) H.out.2 hn
  have e : rowV x l = (decide (n = lngV x) && !(l.any fun y => !fitV x.1 y)) := by
    unfold rowV
    rw [hn]
    congr 1
    rw [List.all_eq_not_any_not]
  rw [e]
  have q0 : ((n : Int) == (lngV x : Int)) = decide (n = lngV x) := nat_eqK _ _
  generalize decide (n = lngV x) = p at *
  generalize (l.any fun y => !fitV x.1 y) = F at *
  generalize ((lngV x : Nat) : Int) = L at *
  clear R hn e hs
  unfold vrC at *
  go_enter Tryd.func42, Tryd.ntmps42
  cases p
  · go_wp2_with (go_at_call 38; (with_reducible refine (CE.out _).mono ?_); rintro en w2 ⟨rfl, b⟩; have H2 := Lib.hid (HV.out.step b); clear b)
    go_ret
    exact ⟨rfl, H2.out.1⟩
  · go_wp2_with (first
      | (go_at_call 38; (with_reducible refine (CE.out _).mono ?_); rintro en w2 ⟨rfl, b⟩; have H2 := Lib.hid (HV.out.step b); clear b)
      | (go_at_call 60; (with_reducible refine (CC.out _ H2).mono ?_); rintro en w3 ⟨rfl, b⟩; have H3 := Lib.hid (H2.out.step b); clear b))
    go_ret
    exact ⟨by simp, H3.out.1⟩
theorem rows_step {vs : List Vr} {s : St} {j : Nat} (h1 : j < vs.length) (h2 : j < s.length) (h : ((List.zip vs s).take j).all (fun p => rowV p.1 p.2) = true) (hr : rowV (vs.getD j v0) (s.getD j []) = true) : ((List.zip vs s).take (j + 1)).all (fun p => rowV p.1 p.2) = true := by
  have hz : j < (List.zip vs s).length := by rw [List.length_zip]; omega
  rw [List.take_succ_eq_append_getElem hz, List.all_append, h]
  rw [List.getD_eq_getElem?_getD, List.getElem?_eq_getElem h1, List.getD_eq_getElem?_getD, List.getElem?_eq_getElem h2] at hr
  simpa using hr
theorem rows_no {vs : List Vr} {s : St} {j : Nat} (h1 : j < vs.length) (h2 : j < s.length) (hr : rowV (vs.getD j v0) (s.getD j []) = false) : (List.zip vs s).all (fun p => rowV p.1 p.2) = false := by
  rw [List.all_eq_false]
  exact ⟨_, zip_at v0 [] h1 h2, by rw [hr]; simp⟩
set_option maxRecDepth 100000 in
set_option maxHeartbeats 4000000 in
theorem EqualV_any (vs : List Vr) (hs : sndL vs = true) (s : St) (A B : Option Addr) (n m c d : Nat) (w : World) (R : VaR w A c vs) (T : StR w B d s) (hn : vs.length = n) (hm : s.length = m) : Calls Tryd.prog 41 #[.slice A n c, .slice B m d, .func (.func 42) #[] #[]] w fun en w' => en = .returned (.bool (mayS vs s)) ∧ Below w.heap.size w w' := by
  have hsa := R.sz hn
  have hsb := T.sz hm
  have HB0 := Lib.hid (b0 w)
  by_cases hnm : n ≠ m
  · have q0 : ((n : Int) != (m : Int)) = true := by simp; omega
    have e : mayS vs s = false := by
      unfold mayS
      rw [decide_eq_false (show ¬ s.length = vs.length by omega), Bool.false_and, Bool.and_false]
    rw [e]
    clear R T hn hm hnm e
    go_enter Tryd.func41, Tryd.ntmps41
    go_wp2
    go_ret
    exact ⟨rfl, HB0.out⟩
  obtain rfl : n = m := by omega
  have HA := Lib.hid R
  have HR := Lib.hid T
  have HN := Lib.hid (And.intro hn hm)
  have q0 : ((n : Int) != (n : Int)) = false := by simp
  have e : mayS vs s = (List.zip vs s).all fun p => rowV p.1 p.2 := by
    unfold mayS
    rw [hs, decide_eq_true (show s.length = vs.length by omega), Bool.true_and, Bool.true_and]
  rw [e]
  obtain ⟨F, hF⟩ : ∃ F, ((List.zip vs s).all fun p => rowV p.1 p.2) = F := ⟨_, rfl⟩
  rw [hF]
  have HF := Lib.hid hF
  clear R T hn hm hnm hF e
  go_enter Tryd.func41, Tryd.ntmps41
  go_wp2
  go_loopw [17] (fun ι wr => ∃ j : Nat, j ≤ n ∧ ι = .int .i64 j ∧ Hid (((List.zip vs s).take j).all (fun p => rowV p.1 p.2) = true) ∧ Hid (Below w.heap.size w wr)) (fun ι _ => n - (intOf ι).toNat)
  case atStart => exact ⟨0, Nat.zero_le _, rfl, Lib.hid (by simp), HB0⟩
  case round =>
    obtain ⟨j, hj, rfl, he, H⟩ := hrel
    have hj0 : (0 : Int) ≤ (j : Int) := by omega
    by_cases hlt : (j : Int) < (n : Int)
    · have j1 : j < vs.length := by have := HN.out; omega
      have j2 : j < s.length := by have := HN.out; omega
      obtain ⟨p, rfl, x0, x1⟩ := (HA.out.keep H.out).rd j j1
      have hc := Lib.hid (bal H.out (.cells (vrC (vs.getD j v0)) 79))
      obtain ⟨q, rfl, Q, nq, dq, hnq, y0, Wq⟩ := (HR.out.keep H.out).rd j j2
      have y1 := (((b0 wr |> fun b => bal b (.cells (vrC (vs.getD j v0)) 79)).cell (g_lt y0)).trans y0)
      obtain ⟨p0, p1⟩ := box2v (boxS_new wr 79 (vrC (vs.getD j v0)))
      have C := MayHold_any (vs.getD j v0) (snd_in hs j1) (s.getD j []) Q nq dq _ (Wq.keep (bal (b0 wr) (.cells (vrC (vs.getD j v0)) 79))) hnq
      clear Wq hnq
      cases hx : rowV (vs.getD j v0) (s.getD j []) with
      | true =>
        have hf := Lib.hid (rows_step j1 j2 he.out hx)
        rw [hx] at C
        have C := Lib.hid C
        clear hx
        generalize vs.getD j v0 = y at *
        unfold vrC at *
        go_wp2_with (go_at_call 42; (with_reducible refine (C.out).mono ?_); rintro e1 w2 ⟨rfl, b⟩; have H2 := Lib.hid (blw hc.out b); clear b)
        go_roundw
        case rel => exact ⟨j + 1, by omega, by go_num, hf, H2⟩
        case measure => simp [intOf]; omega
      | false =>
        have hf := Lib.hid (show F = false by rw [← HF.out]; exact rows_no j1 j2 hx)
        rw [hx] at C
        have C := Lib.hid C
        clear hx
        generalize vs.getD j v0 = y at *
        unfold vrC at *
        go_wp2_with (go_at_call 42; (with_reducible refine (C.out).mono ?_); rintro e1 w2 ⟨rfl, b⟩; have H2 := Lib.hid (blw hc.out b); clear b)
        go_ret
        rw [hf.out]
        exact ⟨rfl, H2.out⟩
    · obtain rfl : j = n := by omega
      have hf := Lib.hid (show F = true by
        rw [← HF.out]
        have := he.out
        rwa [List.take_of_length_le (by rw [List.length_zip]; have := HN.out; omega)] at this)
      go_wp2
      go_ret
      rw [hf.out]
      exact ⟨rfl, H.out⟩
/-! ### Kernels of variables alone -/
abbrev kzV (A : Option Addr) (n c : Nat) : Value := .agg #[.slice A n c, .slice none 0 0, .int .u8 0, .int .i64 0, .int .i64 0, .int .u8 0, .slice none 0 0, .slice none 0 0, .slice none 0 0, .slice none 0 0, .slice none 0 0]
def kzC (A : Option Addr) (n c : Nat) : Array Value := #[.slice A n c, .slice none 0 0, .int .u8 0, .int .i64 0, .int .i64 0, .int .u8 0, .slice none 0 0, .slice none 0 0, .slice none 0 0, .slice none 0 0, .slice none 0 0]
def KB (w X : World) (A : Option Addr) (n c : Nat) : Prop := Below w.heap.size w X ∧ BoxS X w.heap.size 37 (kzC A n c)
theorem KB.step {w X Y : World} {A : Option Addr} {n c : Nat} (h : KB w X A n c) (b : Below X.heap.size X Y) : KB w Y A n c := ⟨blw h.1 b, h.2.below b⟩
theorem KB.new (w : World) (A : Option Addr) (n c : Nat) : KB w (w.alloc (.cells (kzC A n c) 37)) A n c := ⟨bal (b0 w) _, boxS_new w _ _⟩
theorem KB.v {w X : World} {A : Option Addr} {n c : Nat} (h : KB w X A n c) : X.cell? ⟨w.heap.size, 0, none⟩ = some (.slice A n c) := (h.2.cell 0).trans rfl
theorem mayS_no {vs : List Vr} {s : St} (h : sndL vs = false) : mayS vs s = false := by unfold mayS; rw [h, Bool.false_and]
set_option maxRecDepth 100000 in
set_option maxHeartbeats 4000000 in
theorem PMay_any (vs : List Vr) (s : St) (A B : Option Addr) (n m c d : Nat) (w : World) (R : VaR w A c vs) (T : StR w B d s) (hn : vs.length = n) (hm : s.length = m) : Calls Tryd.prog 16 #[kzV A n c, .slice B m d] w fun en w' => en = .returned (.bool (mayS vs s)) ∧ Below w.heap.size w w' := by
  have HV := Lib.hid (KB.new w A n c)
  have CS := AreSound_any vs A n c _ (R.keep HV.out.1) hn
  have p0 := HV.out.v
  have HP := Lib.hid fun X (H : Hid (KB w X A n c)) => H.out.v
  cases hs : sndL vs with
  | false =>
    rw [mayS_no hs]
    rw [hs] at CS
    have CS := Lib.hid CS
    clear R T hn hm hs
    unfold kzC at *
    go_enter Tryd.func16, Tryd.ntmps16
    go_wp2_with (go_at_call 37; (with_reducible refine (CS.out).mono ?_); rintro en w2 ⟨rfl, b⟩; have H2 := Lib.hid (HV.out.step b); clear b; clear p0; have p0 := HP.out _ H2)
    go_ret
    exact ⟨rfl, H2.out.1⟩
  | true =>
    rw [hs] at CS
    have CS := Lib.hid CS
    have CE := Lib.hid fun X (H : Hid (KB w X A n c)) => EqualV_any vs hs s A B n m c d X (R.keep H.out.1) (T.keep H.out.1) hn hm
    generalize mayS vs s = F at *
    clear R T hn hm hs
    unfold kzC at *
    go_enter Tryd.func16, Tryd.ntmps16
    go_wp2_with (first
      | (go_at_call 37; (with_reducible refine (CS.out).mono ?_); rintro en w2 ⟨rfl, b⟩; have H2 := Lib.hid (HV.out.step b); clear b; clear p0; have p0 := HP.out _ H2)
      | (go_at_call 41; (with_reducible refine (CE.out _ H2).mono ?_); rintro en w3 ⟨rfl, b⟩; have H3 := Lib.hid (H2.out.step b); clear b))
    go_ret
    exact ⟨rfl, H3.out.1⟩
end Go.Proofs.YtblckajejohlbaaDoor
/- The program: Store, Put. -/
set_option linter.unusedVariables false
set_option linter.unusedSimpArgs false
namespace Go.Proofs.YtblckajejohlbaaDoor
open Go Go.RowKit L8 L22 L17
open L14 (inW)

theorem made_words (n : Nat) : (madeCells (Value.int .i32 0).cells (n * 1)).toList = wv (List.replicate n 0) := by
  rw [Nat.mul_one]
  unfold wv
  rw [List.map_replicate]
  exact toList_madeCells_one _ _
theorem made_lists (n : Nat) : (madeCells (Value.slice none 0 0).cells (n * 1)).toList = List.replicate n nilV := by
  rw [Nat.mul_one]
  exact toList_madeCells_one _ _
set_option maxRecDepth 10000 in
/-- Words appended to nil. -/
theorem app_words {w : World} {ops : Array Oper} {rest : List Oper} {o : Oper} {a : Act} {Q : Exit → Act → World → Prop} (hgd : o.guard = none) (s x : Operand)
    (ho : o.op = .call { callee := .builtin .append, args := #[s, x], argTypes := #[54, 54] }) (base m d : Nat) (A : Option Addr) (l : List Int) (hs : a.eval s = .slice none 0 0) (hx : a.eval x = .slice A m d)
    (R : WoR w A d l) (hl : l.length = m) (hb : m * 4 ≤ 140737488355328) (hbase : base ≤ w.heap.size)
    (h : ∀ P c w', w'.ownsRow base 21 1 (.slice P m c) m (wv l) → w.grownBy w' none → ((Value.slice P m c).ownBlock = none ∨ (Value.slice P m c).ownBlock = some w.heap.size) → wpList Tryd.prog ops Q rest (a.put o.dst (.slice P m c)) w') : wpList Tryd.prog ops Q (o :: rest) a w := by
  obtain ⟨i0, hi0, hz0, hz1, hz2⟩ := info_parts words_info
  have hm := R.le
  have hmx := R.mx
  unfold maxLen at hmx
  by_cases h0 : m = 0
  · subst h0
    obtain rfl : l = [] := List.eq_nil_of_length_eq_zero hl
    cases A with
    | none =>
      have hrun : (Builtin.append_ #[54, 54] o.type #[.slice none 0 0, .slice none 0 d]).run Tryd.prog w = .ok (.slice none 0 0) w := by
        simp [Builtin.append_, run_underlying Tryd.underlying54, sizeOf, typeInfo, hi0, Builtin.lenOf, Builtin.firstCells]
      refine wpList_plain hgd fun K hK => ?_
      unfold Oper.wp execOp
      simp only [ho, resolve, invoke, builtin, Sem.run_bind, Sem.run_pure, Result.andThen_ok, List.map_toArray, List.map_cons, List.map_nil, hs, hx, hrun]
      exact hK _ _ (h none 0 w (World.ownsRow_nil w base _ 1) (World.grownBy.refl w _) (.inl rfl))
    | some ad =>
      refine wpList_append_own w hgd s x 54 ho base 21 i0 (.int .i32 0) 1 4 Tryd.underlying54 hi0 hz0 hz1 hz2 rfl (by decide) (.slice none 0 0) 0 [] hs (World.ownsRow_nil w base _ 1) ad 0 d [] hx rfl (fun j u hj => by simp at hj) (fun u hu => by cases hu) (by unfold maxLen; omega) (by omega) hbase ?_
      intro v' w' hown hgrow hnil
      obtain rfl := hnil.2 ⟨rfl, rfl⟩
      exact h none 0 w' hown hgrow (.inl rfl)
  · obtain ⟨ad, rfl, _⟩ := R.rd 0 (by omega)
    refine wpList_append_lies (w := w) hgd s x 54 ho base 21 i0 (.int .i32 0) 1 4 Tryd.underlying54 hi0 hz0 hz1 hz2 rfl (by decide) (.slice none 0 0) 0 [] hs (World.ownsRow_nil w base _ 1) ad m d (wv l) hx (by rw [wv_len, hl]; omega) (fun j u hj => by
      have hj2 := (List.getElem?_eq_some_iff.1 hj).1
      rw [wv_len] at hj2
      obtain ⟨ad', e, hc⟩ := R.rd j hj2
      obtain rfl := Option.some.inj e
      rw [wv_at hj2] at hj
      rw [hc]; exact hj) (wv_one l) (by omega) (by unfold maxLen; omega) (by omega) hbase w.heap.size rfl ?_
    intro g cap w' hown hgrow hg _
    rw [Nat.zero_add, List.nil_append] at hown
    rw [Nat.zero_add]
    refine h _ _ w' hown hgrow (.inr ?_)
    rcases hg with hg | hg
    · cases hg
    · rw [hg]; rfl
/-- What makes a store answers. -/
def Mks (w : World) (s : St) (e : Ending) (w' : World) : Prop := ∃ A c vs, e = .returned (.slice A s.length c) ∧ OwS w' w.heap.size A s.length c vs s ∧ Below w.heap.size w w'
/-- In the loop over the lists. -/
structure LpS (w X : World) (g n : Nat) (s : St) : Prop where
  b : Below w.heap.size w X
  o : ∃ vs, OwS X w.heap.size (some ⟨g, 0, none⟩) n n vs s
theorem LpS.step {w X Y : World} {g n : Nat} {s : St} (h : LpS w X g n s) (b : Below X.heap.size X Y) : LpS w Y g n s := ⟨blw h.b b, by obtain ⟨vs, o⟩ := h.o; exact ⟨vs, o.keep b⟩⟩
theorem LpS.grown {w X Y : World} {g n : Nat} {s : St} (h : LpS w X g n s) (b : X.grownBy Y none) : LpS w Y g n s := h.step (g_below0 b)
theorem LpS.ge {w X : World} {g n : Nat} {s : St} (h : LpS w X g n s) : w.heap.size ≤ g := by obtain ⟨vs, o⟩ := h.o; exact (o.ge g rfl).1
theorem LpS.cell {w X : World} {g n : Nat} {s : St} (h : LpS w X g n s) {j : Nat} (hj : j < n) : (∃ v, X.cell? ⟨g, j, none⟩ = some v) ∧ X.frozen? ⟨g, j, none⟩ = false := by
  obtain ⟨vs, o⟩ := h.o
  exact ⟨⟨_, (o.own.cellAt j (by omega)).trans (List.getElem?_eq_getElem (by rw [o.vlen]; exact hj))⟩, o.own.frozenAt j⟩
/-- An empty list stands there as nil. -/
theorem LpS.nilat {w X : World} {g n : Nat} {s : St} (h : LpS w X g n s) {j : Nat} (hj : j < n) (hs : s.getD j [] = []) (hv : ∀ vs, OwS X w.heap.size (some ⟨g, 0, none⟩) n n vs s → (vs.getD j nilV).ownBlock = none → vs.getD j nilV = nilV) : True := trivial
theorem LpS.fill {w X Y : World} {g n : Nat} {s : St} (h : LpS w X g n s) {k : Nat} (hk : k < n) {P : Option Addr} {d : Nat} {l : List Int} (gr : X.grownBy Y none) (r : Y.ownsRow w.heap.size 21 1 (.slice P l.length d) l.length (wv l)) (hl : ∀ x ∈ l, inW x)
    (hf : (Value.slice P l.length d).ownBlock = none ∨ (Value.slice P l.length d).ownBlock = some X.heap.size) : LpS w (Y.setCell ⟨g, k, none⟩ (.slice P l.length d)) g n (s.set k l) := by
  obtain ⟨vs, o⟩ := h.o
  have oy := o.grown gr
  obtain ⟨q1, q2⟩ := oy.fill hk r hl (hf.imp id fun e => ⟨by rw [e]; intro k; injection k with k; have := (o.ge g rfl).2; omega, fun j hj => by
    rw [e]
    intro k
    have := (o.lt hj X.heap.size k.symm).2
    omega⟩)
  refine ⟨?_, _, q1⟩
  have b := blw h.b (g_below0 gr)
  have hg := h.ge
  exact b.trans ((Fr.below (w := Y) (P := fun k => k = g) ⟨q2.os, q2.tape, q2.output, q2.size, fun k hk hp => q2.block k hk (fun e => hp (by injection e))⟩ b.size (fun k hk => by omega)))
set_option maxRecDepth 100000 in
set_option maxHeartbeats 4000000 in
theorem PStore_no (vs : List Vr) (A : Option Addr) (n c : Nat) (w : World) (R : VaR w A c vs) (hn : vs.length = n) (hs : sndL vs = false) : Calls Tryd.prog 13 #[kzV A n c] w (Mks w []) := by
  have HV := Lib.hid (KB.new w A n c)
  have CS := AreSound_any vs A n c _ (R.keep HV.out.1) hn
  have p0 := HV.out.v
  rw [hs] at CS
  have CS := Lib.hid CS
  have HE := Lib.hid fun X (b : Below w.heap.size w X) => (show Mks w [] (.returned (.slice none 0 0)) X from ⟨none, 0, [], rfl, OwS.nil X _, b⟩)
  clear R hn hs
  unfold kzC at *
  go_enter Tryd.func13, Tryd.ntmps13
  go_wp2_with (go_at_call 37; (with_reducible refine (CS.out).mono ?_); rintro en w2 ⟨rfl, b⟩; have H2 := Lib.hid (HV.out.step b); clear b)
  go_ret
  exact HE.out _ H2.out.1
set_option maxRecDepth 100000 in
set_option maxHeartbeats 8000000 in
theorem PStore_yes (vs : List Vr) (A : Option Addr) (n c : Nat) (w : World) (R : VaR w A c vs) (hn : vs.length = n) (hs : sndL vs = true) : Calls Tryd.prog 13 #[kzV A n c] w (Mks w (stoV vs)) := by
  obtain ⟨i0, hi0, hz0, hz1, hz2⟩ := info_parts words_info
  obtain ⟨i1, hi1, hy0, hy1, hy2⟩ := info_parts lists_info
  have h256 := snd_n hs
  have hsl : (stoV vs).length = n := by unfold stoV; rw [List.length_map, hn]
  have HV := Lib.hid (KB.new w A n c)
  have CS := AreSound_any vs A n c _ (R.keep HV.out.1) hn
  have p0 := HV.out.v
  have HP := Lib.hid fun X (H : Hid (KB w X A n c)) => H.out.v
  rw [hs] at CS
  have CS := Lib.hid CS
  have hn1 : (n : Int) ≤ 256 := by omega
  have hn0 : (0 : Int) ≤ (n : Int) := by omega
  have HR := Lib.hid R
  have HN := Lib.hid (And.intro hn hsl)
  have HE := Lib.hid fun X g (h : LpS w X g n (upS (stoV vs) n n)) => (show Mks w (stoV vs) (.returned (.slice (some ⟨g, 0, none⟩) n n)) X by
    obtain ⟨vs', o⟩ := h.o
    rw [upS_all HN.out.2] at o
    refine ⟨some ⟨g, 0, none⟩, n, vs', by rw [HN.out.2], ?_, h.b⟩
    rw [HN.out.2]; exact o)
  clear R hn hsl
  unfold kzC at *
  go_enter Tryd.func13, Tryd.ntmps13
  go_wp2_with (first
    | (go_at_call 37; (with_reducible refine (CS.out).mono ?_); rintro en w2 ⟨rfl, b⟩; have H2 := Lib.hid (HV.out.step b); clear b; clear p0; have p0 := HP.out _ H2)
    | (at_make; refine wpList_make_full _ rfl _ _ 23 rfl w.heap.size 54 i1 (.slice none 0 0) 1 Tryd.underlying23 hi1 hy0 hy1 .i64 .i64 _ _ n rfl rfl (by omega) (by omega) (by rw [hy2]; omega) (by unfold maxLen; omega) H2.out.1.size ?_; intro w3 hown3 hgrow3; have H3 := Lib.hid (H2.out.step (g_below0 hgrow3)); have L3 : Hid (LpS w w3 w2.heap.size n (upS (stoV vs) n 0)) := Lib.hid ⟨H3.out.1, _, by rw [made_lists] at hown3; rw [upS_zero]; exact OwS.made hown3⟩; clear hown3 hgrow3; clear p0; have p0 := HP.out _ H3))
  generalize w2.heap.size = g at *
  go_loopw [17] (fun ι wr => ∃ j : Nat, j ≤ n ∧ ι = .int .i64 j ∧ Hid (LpS w wr g n (upS (stoV vs) n j))) (fun ι _ => n - (intOf ι).toNat)
  case atStart => exact ⟨0, Nat.zero_le _, rfl, L3⟩
  case round =>
    obtain ⟨j, hj, rfl, H⟩ := hrel
    have hj0 : (0 : Int) ≤ (j : Int) := by omega
    by_cases hlt : (j : Int) < (n : Int)
    · have hjn : j < vs.length := by have := HN.out; omega
      have hjn2 : j < n := by omega
      obtain ⟨a, rfl, x0, x1⟩ := (HR.out.keep H.out.b).rd j hjn
      have HA := Lib.hid (H.out.step (bal (b0 wr) (.cells (vrC (vs.getD j v0)) 79)))
      obtain ⟨b0', b1'⟩ := box2v (boxS_new wr 79 (vrC (vs.getD j v0)))
      have hsn := snd_in hs hjn
      have C := Lib.hid fun W => Elements_any (vs.getD j v0) hsn W
      have h64 := snd_l hsn
      have hl0 : (0 : Int) ≤ ((lngV (vs.getD j v0) : Nat) : Int) := by omega
      have hl1 : ((lngV (vs.getD j v0) : Nat) : Int) ≤ 64 := by omega
      have hnx := Lib.hid (upS_next HN.out.2 hjn2)
      have hget : (stoV vs).getD j [] = List.replicate (lngV (vs.getD j v0)) 0 := by
        unfold stoV
        rw [List.getD_eq_getElem?_getD, List.getElem?_map, List.getElem?_eq_getElem hjn, List.getD_eq_getElem?_getD, List.getElem?_eq_getElem hjn]; rfl
      rw [hget] at hnx
      have hrep := List.length_replicate (n := lngV (vs.getD j v0)) (a := (0 : Int))
      have HF := Lib.hid fun (X Y : World) (h : Hid (LpS w X g n (upS (stoV vs) n j))) (gr : X.grownBy Y none) (r : Y.ownsRow w.heap.size 21 1 (.slice (some ⟨X.heap.size, 0, none⟩) (lngV (vs.getD j v0)) (lngV (vs.getD j v0))) (lngV (vs.getD j v0)) (wv (List.replicate (lngV (vs.getD j v0)) 0))) => (show LpS w (Y.setCell ⟨g, j, none⟩ (.slice (some ⟨X.heap.size, 0, none⟩) (lngV (vs.getD j v0)) (lngV (vs.getD j v0)))) g n (upS (stoV vs) n (j + 1)) by
        have := h.out.fill (k := j) hjn2 (P := some ⟨X.heap.size, 0, none⟩) (d := lngV (vs.getD j v0)) (l := List.replicate (lngV (vs.getD j v0)) 0) gr (by rw [hrep]; exact r) (fun x hx => by rw [(List.mem_replicate.1 hx).2]; unfold inW; omega) (.inr rfl)
        rw [hrep] at this
        have e := hnx.out
        rw [e] at this
        exact this)
      have HM := Lib.hid (made_words (lngV (vs.getD j v0)))
      have HC := Lib.hid fun X (h : Hid (LpS w X g n (upS (stoV vs) n j))) => h.out.cell hjn2
      clear hnx hget hrep hsn
      generalize lngV (vs.getD j v0) = L at *
      generalize vs.getD j v0 = y at *
      unfold vrC at *
      go_wp2_with (first
        | (go_at_call 38; (with_reducible refine (C.out _).mono ?_); rintro e1 w4 ⟨rfl, b⟩; have H4 := Lib.hid (HA.out.step b); clear b)
        | (at_make; refine wpList_make_full _ rfl _ _ 54 rfl w.heap.size 21 i0 (.int .i32 0) 1 Tryd.underlying54 hi0 hz0 hz1 .i64 .i64 _ _ L rfl rfl (by omega) (by omega) (by rw [hz2]; omega) (by unfold maxLen; omega) H4.out.b.size ?_; intro w5 hown5 hgrow5; rw [HM.out] at hown5; have H6 := Lib.hid (HF.out w4 w5 H4 hgrow5 hown5); obtain ⟨⟨u, hu⟩, hfz⟩ := HC.out w5 (Lib.hid (H4.out.grown hgrow5)); clear hown5 hgrow5))
      go_roundw
      case rel => exact ⟨j + 1, by omega, by go_num, H6⟩
      case measure => simp [intOf]; omega
    · obtain rfl : j = n := by omega
      go_wp2
      go_ret
      exact HE.out _ _ H.out
end Go.Proofs.YtblckajejohlbaaDoor
/- The program: Put. -/
set_option linter.unusedVariables false
set_option linter.unusedSimpArgs false
namespace Go.Proofs.YtblckajejohlbaaDoor
open Go Go.RowKit L8 L22 L17
open L14 (inW)

/-- No list is larger than a machine's memory. -/
def stB (s : St) : Prop := ∀ l ∈ s, l.length * 4 ≤ 140737488355328
theorem stB_at {s : St} (h : stB s) {j : Nat} (hj : j < s.length) : (s.getD j []).length * 4 ≤ 140737488355328 := h _ (by rw [List.getD_eq_getElem?_getD, List.getElem?_eq_getElem hj]; exact List.getElem_mem hj)
theorem stB_put {s : St} (h : stB s) (v i x : Int) : stB (putS s v i x) := by
  unfold putS
  split
  · intro l hl
    rcases List.mem_or_eq_of_mem_set hl with h1 | h1
    · exact h l h1
    · rw [h1, List.length_set]
      rcases getD_mem_or s [] v.toNat with h2 | h2
      · exact h _ h2
      · rw [h2]; simp
  · exact h
/-- In Put's loop: the lists from one on are nil. -/
structure LpP (w X : World) (g n j : Nat) (s : St) : Prop where
  b : Below w.heap.size w X
  o : ∃ vs, OwS X w.heap.size (some ⟨g, 0, none⟩) n n vs (upS s n j) ∧ ∀ i, j ≤ i → vs.getD i nilV = nilV
theorem LpP.s {w X : World} {g n j : Nat} {s : St} (h : LpP w X g n j s) : LpS w X g n (upS s n j) := by obtain ⟨vs, o, _⟩ := h.o; exact ⟨h.b, vs, o⟩
theorem LpP.step {w X Y : World} {g n j : Nat} {s : St} (h : LpP w X g n j s) (b : Below X.heap.size X Y) : LpP w Y g n j s := ⟨blw h.b b, by obtain ⟨vs, o, k⟩ := h.o; exact ⟨vs, o.keep b, k⟩⟩
theorem LpP.cell {w X : World} {g n j : Nat} {s : St} (h : LpP w X g n j s) (hj : j < n) : X.cell? ⟨g, j, none⟩ = some (.slice none 0 0) ∧ X.frozen? ⟨g, j, none⟩ = false := by
  obtain ⟨vs, o, k⟩ := h.o
  refine ⟨(o.own.cellAt j (by omega)).trans ?_, o.own.frozenAt j⟩
  have := k j (Nat.le_refl _)
  rw [List.getD_eq_getElem?_getD, List.getElem?_eq_getElem (by rw [o.vlen]; exact hj)] at this
  rw [List.getElem?_eq_getElem (by rw [o.vlen]; exact hj)]
  exact congrArg some this
theorem LpP.fill {w X Y : World} {g n j m : Nat} {s : St} (h : LpP w X g n j s) (hj : j < n) (hs : s.length = n) (hw : stW s) {P : Option Addr} {d : Nat} (hm : (s.getD j []).length = m) (gr : X.grownBy Y none) (r : Y.ownsRow w.heap.size 21 1 (.slice P m d) m (wv (s.getD j [])))
    (hf : (Value.slice P m d).ownBlock = none ∨ (Value.slice P m d).ownBlock = some X.heap.size) : LpP w (Y.setCell ⟨g, j, none⟩ (.slice P m d)) g n (j + 1) s := by
  subst hm
  obtain ⟨vs, o, k⟩ := h.o
  have b := (h.s.fill hj gr r (stW_get hw j) hf).b
  have oy := o.grown gr
  obtain ⟨q1, q2⟩ := oy.fill hj r (stW_get hw j) (hf.imp id fun e => ⟨by rw [e]; intro k; injection k with k; have := (o.ge g rfl).2; omega, fun i hi => by
    rw [e]
    intro k
    have := (o.lt hi X.heap.size k.symm).2
    omega⟩)
  rw [upS_next hs hj] at q1
  refine ⟨b, _, q1, fun i hi => ?_⟩
  rw [set_getD (by rw [o.vlen]; exact hj), if_neg (by omega)]
  exact k i (by omega)
set_option maxRecDepth 100000 in
set_option maxHeartbeats 8000000 in
theorem PPut_any (s : St) (A : Option Addr) (n c : Nat) (v i x : Int) (hx : inW x) (w : World) (R : StR w A c s) (hn : s.length = n) (hB : stB s) (h6 : n ≤ 1000000) : Calls Tryd.prog 24 #[.slice A n c, .int .i64 v, .int .i64 i, .int .i32 x] w (Mks w (putS s v i x)) := by
  obtain ⟨i1, hi1, hy0, hy1, hy2⟩ := info_parts lists_info
  have hn1 : (n : Int) ≤ 1000000 := by omega
  have hn0 : (0 : Int) ≤ (n : Int) := by omega
  have HB0 := Lib.hid (b0 w)
  have HR := Lib.hid R
  have HN := Lib.hid hn
  have HW := Lib.hid R.w
  have HSB := Lib.hid hB
  have HE := Lib.hid fun X g (h : LpS w X g n (putS s v i x)) => (show Mks w (putS s v i x) (.returned (.slice (some ⟨g, 0, none⟩) n n)) X by
    obtain ⟨vs', o⟩ := h.o
    have e : (putS s v i x).length = n := (put_len s v i x).trans hn
    refine ⟨some ⟨g, 0, none⟩, n, vs', by rw [e], ?_, h.b⟩
    rw [e]; exact o)
  have CH := Lib.hid fun X g (h : Hid (LpS w X g n s)) => (show Calls Tryd.prog 50 #[.slice (some ⟨g, 0, none⟩) n n, .int .i64 v, .int .i64 i] X fun en w' => en = .returned (.bool (hasS s v i)) ∧ X = w' by
    obtain ⟨vs, o⟩ := h.out.o
    exact Has_any s _ n n v i X o.st hn)
  clear R hn hB
  go_enter Tryd.func24, Tryd.ntmps24
  go_wp2_with (at_make; refine wpList_make_full _ rfl _ _ 90 rfl w.heap.size 54 i1 (.slice none 0 0) 1 Tryd.underlying90 hi1 hy0 hy1 .i64 .i64 _ _ n rfl rfl (by omega) (by omega) (by rw [hy2]; omega) (by unfold maxLen; omega) (Nat.le_refl _) ?_; intro w3 hown3 hgrow3; have L3 : Hid (LpP w w3 w.heap.size n 0 s) := Lib.hid ⟨g_below0 hgrow3, _, by rw [made_lists] at hown3; rw [upS_zero]; exact OwS.made hown3, fun i _ => rep_getD _ _ _⟩; clear hown3 hgrow3)
  go_loopw [17] (fun ι wr => ∃ j : Nat, j ≤ n ∧ ι = .int .i64 j ∧ Hid (LpP w wr w.heap.size n j s)) (fun ι _ => n - (intOf ι).toNat)
  case atStart => exact ⟨0, Nat.zero_le _, rfl, L3⟩
  case round =>
    obtain ⟨j, hj, rfl, H⟩ := hrel
    have hj0 : (0 : Int) ≤ (j : Int) := by omega
    by_cases hlt : (j : Int) < (n : Int)
    · have hjn : j < s.length := by have := HN.out; omega
      have hjn2 : j < n := by omega
      obtain ⟨a, rfl, Q, m, d, hm, x0, Wq⟩ := (HR.out.keep H.out.b).rd j hjn
      obtain ⟨z0, z1⟩ := H.out.cell hjn2
      have hb := stB_at HSB.out hjn
      rw [hm] at hb
      have HF := Lib.hid fun (Y : World) (P : Option Addr) (c : Nat) (gr : wr.grownBy Y none) (r : Y.ownsRow w.heap.size 21 1 (.slice P m c) m (wv (s.getD j []))) hf => And.intro (H.out.fill hjn2 HN.out HW.out hm gr r hf) (H.out.step (g_below0 gr))
      have WQ := Lib.hid (And.intro Wq hm)
      have HC := Lib.hid fun Y (h : LpP w Y w.heap.size n j s) => h.cell hjn2
      clear Wq hm
      generalize s.getD j [] = l at *
      go_wp2_with (at_builtin; refine app_words rfl _ _ rfl w.heap.size m d Q l rfl rfl WQ.out.1 WQ.out.2 hb H.out.b.size ?_; intro P c w5 hown5 hgrow5 hf5; have H6 := Lib.hid (HF.out w5 P c hgrow5 hown5 hf5); obtain ⟨y0, y1⟩ := HC.out w5 H6.out.2; clear hown5 hgrow5 hf5)
      go_roundw
      case rel => exact ⟨j + 1, by omega, by go_num, Lib.hid H6.out.1⟩
      case measure => simp [intOf]; omega
    · obtain rfl : j = n := by omega
      have HS : Hid (LpS w wr w.heap.size j s) := Lib.hid (by have := H.out.s; rw [upS_all HN.out] at this; exact this)
      cases hh : hasS s v i with
      | false =>
        have e : putS s v i x = s := by unfold putS; rw [hh]; rfl
        have CH2 := CH.out wr w.heap.size HS
        rw [hh] at CH2
        have CH2 := Lib.hid CH2
        have HZ := Lib.hid (HE.out wr w.heap.size (by rw [e]; exact HS.out))
        clear CH HE e hh
        go_wp2_with (go_at_call 50; (with_reducible refine (CH2.out).mono ?_); rintro e1 w4 ⟨rfl, rfl⟩)
        go_ret
        exact HZ.out
      | true =>
        have CH2 := CH.out wr w.heap.size HS
        rw [hh] at CH2
        have CH2 := Lib.hid CH2
        have hc : 0 ≤ v ∧ v < (s.length : Int) ∧ 0 ≤ i ∧ i < ((s.getD v.toNat []).length : Int) := by unfold hasS at hh; exact of_decide_eq_true hh
        have e : putS s v i x = s.set v.toNat ((s.getD v.toNat []).set i.toNat x) := by unfold putS; rw [hh]; rfl
        obtain ⟨h1, h2, h3, h4⟩ := hc
        rw [HN.out] at h2
        obtain ⟨k, rfl⟩ : ∃ k : Nat, v = (k : Int) := ⟨v.toNat, by omega⟩
        obtain ⟨t, rfl⟩ : ∃ t : Nat, i = (t : Int) := ⟨i.toNat, by omega⟩
        rw [Int.toNat_natCast] at h4
        rw [Int.toNat_natCast, Int.toNat_natCast] at e
        obtain ⟨vs, o⟩ := HS.out.o
        obtain ⟨gk, d, e1, hgk, hgk2, c0, c1, hset⟩ := o.wr (k := k) (j := t) (by omega) (by omega)
        obtain ⟨o2, gr2⟩ := hset x hx
        have hL : LpS w (wr.setCell ⟨gk, t, none⟩ (.int .i32 x)) w.heap.size j (putS s (k : Int) (t : Int) x) := ⟨HS.out.b.trans (Fr.below (w := wr) (P := fun k => k = gk) ⟨gr2.os, gr2.tape, gr2.output, gr2.size, fun k hk hp => gr2.block k hk (fun e => hp (by injection e))⟩ HS.out.b.size (fun k hk => by omega)), vs, by rw [e]; exact o2⟩
        have HZ := Lib.hid (HE.out _ _ hL)
        have oc := (o.own.cellAt k (by omega)).trans (List.getElem?_eq_getElem (by rw [o.vlen]; omega))
        rw [show vs[k]'(by rw [o.vlen]; omega) = vs.getD k nilV by rw [List.getD_eq_getElem?_getD, List.getElem?_eq_getElem (by rw [o.vlen]; omega)]; rfl, e1] at oc
        have h5 : ((s.getD k []).length : Int) ≤ 9223372036854775807 := by have := stB_at HSB.out (j := k) (by have := HN.out; omega); omega
        generalize (s.getD k []).getD t 0 = y at *
        generalize (s.getD k []).length = m at *
        clear CH HE e hh o hset o2 gr2 hL e1 HS
        go_wp2_with (go_at_call 50; (with_reducible refine (CH2.out).mono ?_); rintro e1 w4 ⟨rfl, rfl⟩)
        go_ret
        exact HZ.out
end Go.Proofs.YtblckajejohlbaaDoor
/- The program: index, Place. -/
set_option linter.unusedVariables false
set_option linter.unusedSimpArgs false
namespace Go.Proofs.YtblckajejohlbaaDoor
open Go Go.RowKit L8 L22 L17
open L14 (apO conO inW isT)

/-- The element that an index stands for. -/
def ixS (s : St) (l : List Kx) : Option Int := if l.length = 0 then some 0 else if l.length = 1 then valK s (l.getD 0 k0) else none
def plS (s : St) (v : Int) (l : List Kx) : Option Int := match ixS s l with
  | none => none
  | some i => if hasS s v i = true then some i else none
def plR (v : Int) (x : Option Int) : Value := .tuple #[.int .i64 (if x.isSome = true then v else 0), .int .i64 (x.getD 0), .bool x.isSome]
set_option maxRecDepth 100000 in
set_option maxHeartbeats 4000000 in
theorem Index_any (s : St) (S : Option Addr) (sn sc : Nat) (hs : s.length = sn) (l : List Kx) (A : Option Addr) (n c : Nat) (w : World) (R : KrR w A c l) (hn : l.length = n) (T : StR w S sc s) (hT : T17 w) : Calls Tryd.prog 49 #[.slice S sn sc, .slice A n c] w fun en w' => (en = .returned (.tuple #[.int .i64 ((ixS s l).getD 0), .bool (ixS s l).isSome])) ∧ Below w.heap.size w w' := by
  have HB0 := Lib.hid (b0 w)
  have hsz : (n : Int) ≤ 9223372036854775807 := by have := R.le; have := R.mx; unfold maxLen at this; omega
  unfold ixS
  by_cases h0 : n = 0
  · subst h0
    rw [if_pos hn]
    clear R T hT hn hs
    go_enter Tryd.func49, Tryd.ntmps49
    go_wp2
    go_ret2
    exact ⟨rfl, HB0.out⟩
  rw [if_neg (by omega)]
  by_cases h1 : n = 1
  · subst h1
    rw [if_pos hn]
    obtain ⟨ad, rfl, B, m, d, hm, hok, Ra, x0, x1, x2, x3, x4, x5⟩ := R.first (by omega)
    have C := PValue_any s S sn sc hs (l.getD 0 k0) B m d w Ra hok hm T hT
    have hw : ∀ y, valK s (l.getD 0 k0) = some y → inW y := fun y hy => by
      unfold valK at hy
      split at hy
      · rename_i hmy
        refine vl_w T.w _ (may_iff.1 hmy).1 ?_ y hy
        exact wn_mem R.wn (memK (by omega))
      · cases hy
    obtain ⟨y, hy⟩ : ∃ y, valK s (l.getD 0 k0) = y := ⟨_, rfl⟩
    rw [hy] at C ⊢
    rw [hy] at hw
    have hy0 : inW (y.getD 0) := by
      cases y with
      | none => exact ⟨by decide, by decide⟩
      | some z => exact hw z rfl
    obtain ⟨hy1, hy2⟩ := hy0
    unfold apR at C
    have C := Lib.hid C
    clear R Ra T hT hn hs hok hm hw hy
    generalize y.getD 0 = z at *
    generalize y.isSome = t at *
    generalize l.getD 0 k0 = e at *
    dsimp only [kxV] at *
    go_enter Tryd.func49, Tryd.ntmps49
    go_wp2_with (go_at_call 19; (with_reducible refine (C.out).mono ?_); rintro en w2 ⟨rfl, b⟩; have H2 := Lib.hid b; clear b)
    go_ret2
    exact ⟨rfl, H2.out⟩
  · rw [if_neg (by omega)]
    have q0 : ((n : Int) == 0) = false := by simp; omega
    have q1 : ((n : Int) == 1) = false := by simp; omega
    clear R T hT hn hs h0 h1
    go_enter Tryd.func49, Tryd.ntmps49
    go_wp2
    go_ret2
    exact ⟨rfl, HB0.out⟩
/-- A world in which a place lies in a box. -/
structure PB (w X : World) (v : Int) (A : Option Addr) (n c : Nat) (s : St) (S : Option Addr) (sc : Nat) : Prop where
  b : Below w.heap.size w X
  x : BoxS X w.heap.size 50 #[.int .i64 v, .slice A n c]
  st : StR X S sc s
theorem PB.step {w X Y : World} {v : Int} {A : Option Addr} {n c : Nat} {s : St} {S : Option Addr} {sc : Nat} (h : PB w X v A n c s S sc) (b : Below X.heap.size X Y) : PB w Y v A n c s S sc := ⟨blw h.b b, h.x.below b, h.st.keep b⟩
theorem PB.c {w X : World} {v : Int} {A : Option Addr} {n c : Nat} {s : St} {S : Option Addr} {sc : Nat} (h : PB w X v A n c s S sc) : X.cell? ⟨w.heap.size, 0, none⟩ = some (.int .i64 v) ∧ X.cell? ⟨w.heap.size, 1, none⟩ = some (.slice A n c) := ⟨(h.x.cell 0).trans rfl, (h.x.cell 1).trans rfl⟩
set_option maxRecDepth 100000 in
set_option maxHeartbeats 4000000 in
theorem PPlace_any (s : St) (S : Option Addr) (sn sc : Nat) (hs : s.length = sn) (v : Int) (l : List Kx) (A : Option Addr) (n c : Nat) (w : World) (R : KrR w A c l) (hn : l.length = n) (T : StR w S sc s) (hT : T17 w) : Calls Tryd.prog 21 #[.slice S sn sc, .agg #[.int .i64 v, .slice A n c]] w fun en w' => en = .returned (plR v (plS s v l)) ∧ Below w.heap.size w w' := by
  have HV : Hid (PB w (w.alloc (.cells #[.int .i64 v, .slice A n c] 50)) v A n c s S sc) := Lib.hid ⟨bal (b0 w) _, boxS_new w _ _, T.keep (bal (b0 w) _)⟩
  have CI := Index_any s S sn sc hs l A n c _ (R.keep HV.out.b) hn HV.out.st (hT.below HV.out.b)
  obtain ⟨p0, p1⟩ := HV.out.c
  have HP := Lib.hid fun X (H : Hid (PB w X v A n c s S sc)) => H.out.c
  unfold plR plS
  cases hi : ixS s l with
  | none =>
    rw [hi] at CI
    have CI := Lib.hid CI
    clear R T hT hn hs hi
    go_enter Tryd.func21, Tryd.ntmps21
    go_wp2_with (go_at_call 49; (with_reducible refine (CI.out).mono ?_); rintro en w2 ⟨rfl, b⟩; have H2 := Lib.hid (HV.out.step b); clear b; clear p0 p1; obtain ⟨p0, p1⟩ := HP.out _ H2)
    exact bodyPost_ret (v := .tuple #[.int .i64 0, .int .i64 0, .bool false]) (by simp [results, Tryd.results21, go_sem]) rfl ⟨rfl, H2.out.b⟩
  | some i =>
    rw [hi] at CI
    rw [show (some i).getD 0 = i from rfl] at CI
    have CI := Lib.hid CI
    have CH := Lib.hid fun X (H : Hid (PB w X v A n c s S sc)) => Has_any s S sn sc v i X H.out.st hs
    show Calls _ _ _ _ fun en w' => en = .returned (.tuple #[.int .i64 (if (if hasS s v i = true then some i else none).isSome = true then v else 0), .int .i64 ((if hasS s v i = true then some i else none).getD 0), .bool (if hasS s v i = true then some i else none).isSome]) ∧ Below w.heap.size w w'
    generalize hasS s v i = F at *
    clear R T hT hn hs hi
    go_enter Tryd.func21, Tryd.ntmps21
    cases F <;>
      (go_wp2_with (first
        | (go_at_call 49; (with_reducible refine (CI.out).mono ?_); rintro en w2 ⟨rfl, b⟩; have H2 := Lib.hid (HV.out.step b); clear b; clear p0 p1; obtain ⟨p0, p1⟩ := HP.out _ H2)
        | (go_at_call 50; (with_reducible refine (CH.out _ H2).mono ?_); rintro en w2' ⟨rfl, rfl⟩))
       first | exact bodyPost_ret (v := .tuple #[.int .i64 0, .int .i64 0, .bool false]) (by simp [results, Tryd.results21, go_sem]) rfl ⟨rfl, H2.out.b⟩ | exact bodyPost_ret (v := .tuple #[.int .i64 v, .int .i64 i, .bool true]) (by simp [results, Tryd.results21, go_sem]) rfl ⟨rfl, H2.out.b⟩)
end Go.Proofs.YtblckajejohlbaaDoor
/- The reference: at, Convert, Long, sound. -/
set_option linter.unusedVariables false
set_option linter.unusedSimpArgs false
namespace Go.Proofs.YtblckajejohlbaaDoor
open Go Go.RowKit L8 L22 L17
open L14 (apO conO inW isT)

theorem Rsome_is (x : Option Int) (v : Int) (p : Bool) (h : p = !x.isSome) (hv : ∀ u, x = some u → u = v) (w : World) : Calls Tryd.prog 63 #[.int .i32 v, .bool p] w fun e w' => e = .returned (apR x) ∧ w = w' := by
  cases x with
  | none =>
    subst h
    show Calls _ _ _ _ fun e w' => e = .returned (.tuple #[.int .i32 0, .bool false]) ∧ w = w'
    go_enter Tryd.func63, Tryd.ntmps63
    go_wp2
    go_ret2
    exact ⟨rfl, rfl⟩
  | some u =>
    subst h
    obtain rfl := hv u rfl
    show Calls _ _ _ _ fun e w' => e = .returned (.tuple #[.int .i32 u, .bool true]) ∧ w = w'
    go_enter Tryd.func63, Tryd.ntmps63
    go_wp2
    go_ret2
    exact ⟨rfl, rfl⟩
theorem con_cond (t : Nat) (v : Int) : (conO t v).isSome = (decide (t = 1) || (decide (t = 2) && (decide (0 ≤ v) && decide (v ≤ 255))) || (decide (t = 3) && (decide (0 ≤ v) && decide (v ≤ 1)))) := by
  unfold conO
  by_cases h : t = 1 ∨ (t = 2 ∧ 0 ≤ v ∧ v ≤ 255) ∨ (t = 3 ∧ (v = 0 ∨ v = 1))
  · rw [if_pos h]
    rcases h with h | ⟨h, h2, h3⟩ | ⟨h, h2⟩
    · simp [h]
    · simp [h, h2, h3]
    · rcases h2 with h2 | h2 <;> simp [h, h2]
  · rw [if_neg h]
    symm
    simp only [Option.isSome_none, Bool.or_eq_false_iff, Bool.and_eq_false_iff, decide_eq_false_iff_not]
    omega
theorem con_vali {t : Nat} {v u : Int} (h : conO t v = some u) : u = v := by
  unfold conO at h
  split at h
  · injection h with h; exact h.symm
  · cases h
set_option maxRecDepth 100000 in
set_option maxHeartbeats 4000000 in
theorem Rconv_any (t : Nat) (v : Int) (w : World) : Calls Tryd.prog 43 #[.int .u8 (t : Int), .int .i32 v] w fun e w' => e = .returned (apR (conO t v)) ∧ w = w' := by
  have C := Lib.hid (fun p h => Rsome_is (conO t v) v p h (fun u h => con_vali h) w)
  have HP := Lib.hid (con_cond t v)
  unfold apR at *
  generalize conO t v = x at *
  have q1 : ((t : Int) == 1) = decide (t = 1) := nat_eqK t 1
  have q2 : ((t : Int) == 2) = decide (t = 2) := nat_eqK t 2
  have q3 : ((t : Int) == 3) = decide (t = 3) := nat_eqK t 3
  by_cases h1 : t = 1
  · have D := Lib.hid (C.out false (by rw [HP.out]; simp [h1]))
    rw [decide_eq_true h1] at q1
    clear h1 q2 q3 HP C
    go_enter Tryd.func43, Tryd.ntmps43
    go_wp2_with (go_at_call 63; (with_reducible refine (D.out).mono ?_); rintro e w' ⟨rfl, rfl⟩)
    go_ret2
    exact ⟨rfl, rfl⟩
  · rw [decide_eq_false h1] at q1
    by_cases h2 : t = 2
    · have h3 : ¬ t = 3 := by omega
      rw [decide_eq_true h2] at q2
      rw [decide_eq_false h3] at q3
      by_cases a0 : 0 ≤ v
      · by_cases a1 : v ≤ 255
        · have D := Lib.hid (C.out false (by rw [HP.out]; simp [h2, a0, a1]))
          clear h1 h2 h3 HP C
          go_enter Tryd.func43, Tryd.ntmps43
          go_wp2_with (go_at_call 63; (with_reducible refine (D.out).mono ?_); rintro e w' ⟨rfl, rfl⟩)
          go_ret2
          exact ⟨rfl, rfl⟩
        · have D := Lib.hid (C.out true (by rw [HP.out]; simp [h2, a0, a1]))
          clear h1 h2 h3 HP C
          go_enter Tryd.func43, Tryd.ntmps43
          go_wp2_with (go_at_call 63; (with_reducible refine (D.out).mono ?_); rintro e w' ⟨rfl, rfl⟩)
          go_ret2
          exact ⟨rfl, rfl⟩
      · have D := Lib.hid (C.out true (by rw [HP.out]; simp [h2, a0]))
        clear h1 h2 h3 HP C
        go_enter Tryd.func43, Tryd.ntmps43
        go_wp2_with (go_at_call 63; (with_reducible refine (D.out).mono ?_); rintro e w' ⟨rfl, rfl⟩)
        go_ret2
        exact ⟨rfl, rfl⟩
    · rw [decide_eq_false h2] at q2
      by_cases h3 : t = 3
      · rw [decide_eq_true h3] at q3
        by_cases a0 : 0 ≤ v
        · by_cases a1 : v ≤ 1
          · have D := Lib.hid (C.out false (by rw [HP.out]; simp [h3, a0, a1]))
            clear h1 h2 h3 HP C
            go_enter Tryd.func43, Tryd.ntmps43
            go_wp2_with (go_at_call 63; (with_reducible refine (D.out).mono ?_); rintro e w' ⟨rfl, rfl⟩)
            go_ret2
            exact ⟨rfl, rfl⟩
          · have D := Lib.hid (C.out true (by rw [HP.out]; simp [h3, a0, a1]))
            clear h1 h2 h3 HP C
            go_enter Tryd.func43, Tryd.ntmps43
            go_wp2_with (go_at_call 63; (with_reducible refine (D.out).mono ?_); rintro e w' ⟨rfl, rfl⟩)
            go_ret2
            exact ⟨rfl, rfl⟩
        · have D := Lib.hid (C.out true (by rw [HP.out]; simp [h3, a0]))
          clear h1 h2 h3 HP C
          go_enter Tryd.func43, Tryd.ntmps43
          go_wp2_with (go_at_call 63; (with_reducible refine (D.out).mono ?_); rintro e w' ⟨rfl, rfl⟩)
          go_ret2
          exact ⟨rfl, rfl⟩
      · rw [decide_eq_false h3] at q3
        have D := Lib.hid (C.out true (by rw [HP.out]; simp [h1, h2, h3]))
        clear h1 h2 h3 HP C
        go_enter Tryd.func43, Tryd.ntmps43
        go_wp2_with (go_at_call 63; (with_reducible refine (D.out).mono ?_); rintro e w' ⟨rfl, rfl⟩)
        go_ret2
        exact ⟨rfl, rfl⟩
theorem RConvert_any (t : Nat) (v : Int) (w : World) : Calls Tryd.prog 43 #[.int .u8 (t : Int), .int .i32 v] w fun e w' => e = .returned (apR (conO t v)) ∧ w = w' := Rconv_any t v w
set_option maxRecDepth 100000 in
set_option maxHeartbeats 4000000 in
theorem RAt_any (s : St) (A : Option Addr) (n c : Nat) (v i : Int) (w : World) (R : StR w A c s) (hn : s.length = n) : Calls Tryd.prog 51 #[.slice A n c, .int .i64 v, .int .i64 i] w fun en w' => en = .returned (apR (atS s v i)) ∧ w = w' := by
  have hsz := R.sz hn
  rw [at_has]
  unfold apR
  by_cases h1 : v < 0
  · have e : hasS s v i = false := by unfold hasS; exact decide_eq_false (by omega)
    have q1 : decide (v < (0 : Int)) = true := decide_eq_true h1
    rw [e]
    clear h1 e R
    go_enter Tryd.func51, Tryd.ntmps51
    go_wp2
    go_ret2
    exact ⟨rfl, rfl⟩
  have q1 : decide (v < (0 : Int)) = false := decide_eq_false h1
  by_cases h2 : (n : Int) ≤ v
  · have e : hasS s v i = false := by unfold hasS; exact decide_eq_false (by omega)
    have q2 : decide ((n : Int) ≤ v) = true := decide_eq_true h2
    rw [e]
    clear h1 h2 e R
    go_enter Tryd.func51, Tryd.ntmps51
    go_wp2
    go_ret2
    exact ⟨rfl, rfl⟩
  have q2 : decide ((n : Int) ≤ v) = false := decide_eq_false h2
  by_cases h3 : i < 0
  · have e : hasS s v i = false := by unfold hasS; exact decide_eq_false (by omega)
    have q3 : decide (i < (0 : Int)) = true := decide_eq_true h3
    rw [e]
    clear h1 h2 h3 e R
    go_enter Tryd.func51, Tryd.ntmps51
    go_wp2
    go_ret2
    exact ⟨rfl, rfl⟩
  have q3 : decide (i < (0 : Int)) = false := decide_eq_false h3
  obtain ⟨k, rfl⟩ : ∃ k : Nat, v = (k : Int) := ⟨v.toNat, by omega⟩
  obtain ⟨j, rfl⟩ : ∃ j : Nat, i = (j : Int) := ⟨i.toNat, by omega⟩
  obtain ⟨a, rfl, B, m, d, hm, hc, hw⟩ := R.rd k (by omega)
  by_cases h4 : (m : Int) ≤ (j : Int)
  · have e : hasS s (k : Int) (j : Int) = false := by unfold hasS; rw [Int.toNat_natCast, hm]; exact decide_eq_false (by omega)
    have q4 : decide (m ≤ j) = true := decide_eq_true (by omega)
    rw [e]
    clear h1 h3 h4 e R hw
    go_enter Tryd.func51, Tryd.ntmps51
    go_wp2
    go_ret2
    exact ⟨rfl, rfl⟩
  have q4 : decide (m ≤ j) = false := decide_eq_false (by omega)
  obtain ⟨b, rfl, hb⟩ := hw.rd j (by omega)
  have hms : (m : Int) ≤ 9223372036854775807 := by
    have := hw.le
    have := hw.mx
    unfold maxLen at this
    omega
  have e : hasS s (k : Int) (j : Int) = true := has_nat (by omega) (by omega)
  rw [e, if_pos rfl, Int.toNat_natCast, Int.toNat_natCast]
  generalize (s.getD k []).getD j 0 = x at *
  clear R hn e hw hm
  go_enter Tryd.func51, Tryd.ntmps51
  go_wp2
  go_ret2
  exact ⟨rfl, rfl⟩
theorem RLong_any (x : Vr) (hs : sndV x = true) (w : World) : Calls Tryd.prog 40 #[vrV x] w fun en w' => en = .returned (.int .i64 (lngV x : Int)) ∧ Below w.heap.size w w' := by
  have HB := Lib.hid (bal (b0 w) (.cells (vrC x) 79))
  obtain ⟨p0, p1⟩ := box2v (boxS_new w 79 (vrC x))
  have h0 : 0 ≤ x.2 ∧ x.2 ≤ 64 := by unfold sndV at hs; simp only [Bool.and_eq_true, decide_eq_true_eq] at hs; omega
  obtain ⟨h1, h2⟩ := h0
  unfold vrC at *
  by_cases hz : x.2 = 0
  · have q : (x.2 == 0) = true := by rw [hz]; rfl
    have e : lngV x = 1 := by unfold lngV; rw [if_pos hz]
    rw [e]
    clear hz hs e
    go_enter Tryd.func40, Tryd.ntmps40
    go_wp2
    go_ret
    exact ⟨rfl, HB.out⟩
  · have q : (x.2 == 0) = false := by simpa using hz
    have e : ((lngV x : Nat) : Int) = x.2 := by unfold lngV; rw [if_neg hz]; omega
    rw [e]
    clear hz hs e
    go_enter Tryd.func40, Tryd.ntmps40
    go_wp2
    go_ret
    exact ⟨rfl, HB.out⟩
theorem bne_lit (a b : Nat) : ((a : Int) != (b : Int)) = !decide (a = b) := by rw [bne, nat_eqK]
set_option maxRecDepth 100000 in
set_option maxHeartbeats 8000000 in
theorem RSound_any (l : List Vr) (A : Option Addr) (n c : Nat) (w : World) (R : VaR w A c l) (hn : l.length = n) : Calls Tryd.prog 39 #[.slice A n c] w fun en w' => en = .returned (.bool (sndL l)) ∧ w = w' := by
  have hsz := R.sz hn
  by_cases hbig : 256 < n
  · have e : sndL l = false := by unfold sndL; rw [decide_eq_false (by omega), Bool.false_and]
    have q : decide ((256 : Int) < (n : Int)) = true := decide_eq_true (by omega)
    rw [e]
    clear R e hn hbig
    go_enter Tryd.func39, Tryd.ntmps39
    go_wp2
    go_ret
    exact ⟨rfl, rfl⟩
  have q : decide ((256 : Int) < (n : Int)) = false := decide_eq_false (by omega)
  have HR := Lib.hid R
  have HN := Lib.hid hn
  have e : sndL l = !(l.any fun x => !sndV x) := by
    unfold sndL
    rw [decide_eq_true (by omega), Bool.true_and, List.all_eq_not_any_not]
  rw [e]
  obtain ⟨F, hF⟩ : ∃ F, (l.any fun x => !sndV x) = F := ⟨_, rfl⟩
  rw [hF]
  have HF := Lib.hid hF
  have hn256 : (n : Int) ≤ 256 := by omega
  clear R hn hF e hbig
  go_enter Tryd.func39, Tryd.ntmps39
  go_wp2
  go_loopw [3] (fun ι wr => ∃ j : Nat, j ≤ n ∧ ι = .int .i64 j ∧ Hid ((l.take j).any (fun x => !sndV x) = false) ∧ w = wr) (fun ι _ => n - (intOf ι).toNat)
  case atStart => exact ⟨0, Nat.zero_le _, rfl, Lib.hid (by simp), rfl⟩
  case round =>
    obtain ⟨j, hj, rfl, HA, rfl⟩ := hrel
    have hj0 : (0 : Int) ≤ (j : Int) := by omega
    by_cases hlt : (j : Int) < (n : Int)
    · have hjn : j < l.length := by have := HN.out; omega
      obtain ⟨a, rfl, x0, x1⟩ := HR.out.rd j hjn
      have hk := HR.out.at hjn
      obtain ⟨b1, q1⟩ : ∃ b, (((l.getD j v0).1 : Int) != 1) = b := ⟨_, rfl⟩
      have r1 : (!decide ((l.getD j v0).1 = 1)) = b1 := by rw [← q1, ← bne_lit _ 1]; rfl
      obtain ⟨b2, q2⟩ : ∃ b, (((l.getD j v0).1 : Int) != 2) = b := ⟨_, rfl⟩
      have r2 : (!decide ((l.getD j v0).1 = 2)) = b2 := by rw [← q2, ← bne_lit _ 2]; rfl
      obtain ⟨b3, q3⟩ : ∃ b, (((l.getD j v0).1 : Int) != 3) = b := ⟨_, rfl⟩
      have r3 : (!decide ((l.getD j v0).1 = 3)) = b3 := by rw [← q3, ← bne_lit _ 3]; rfl
      obtain ⟨b4, q4⟩ : ∃ b, decide ((l.getD j v0).2 < (0 : Int)) = b := ⟨_, rfl⟩
      obtain ⟨b5, q5⟩ : ∃ b, decide ((64 : Int) < (l.getD j v0).2) = b := ⟨_, rfl⟩
      have es : (!sndV (l.getD j v0)) = ((b1 && (b2 && b3)) || (b4 || b5)) := by
        rw [← q4, ← q5, ← r1, ← r2, ← r3]
        unfold sndV
        rw [Bool.eq_iff_iff]
        simp only [Bool.not_eq_true', Bool.and_eq_false_iff, Bool.or_eq_true, Bool.not_eq_true', decide_eq_true_eq, decide_eq_false_iff_not, Bool.and_eq_true]
        omega
      have hy := Lib.hid fun (h : (!sndV (l.getD j v0)) = true) => (show F = true by rw [← HF.out]; exact any_yes v0 hjn h)
      have hz := Lib.hid fun (h : (!sndV (l.getD j v0)) = false) => any_take v0 hjn HA.out h
      rw [es] at hy hz
      clear es r1 r2 r3 hk
      generalize (l.getD j v0).1 = K at *
      generalize (l.getD j v0).2 = D at *
      cases b1 <;> cases b2 <;> cases b3 <;> cases b4 <;> cases b5 <;>
        first
        | (have hy := Lib.hid (hy.out rfl); clear hz; go_wp2; go_ret; rw [hy.out]; exact ⟨rfl, rfl⟩)
        | (have hz := Lib.hid (hz.out rfl); clear hy; go_wp2; go_roundw; (case rel => exact ⟨j + 1, by omega, by go_num, hz, by first | trivial | rfl⟩); (case measure => simp [intOf]; omega))
    · obtain rfl : j = n := by omega
      have hf := Lib.hid (show F = false by rw [← HF.out, ← HA.out, ← HN.out, List.take_length])
      go_wp2
      go_ret
      rw [hf.out]
      exact ⟨rfl, rfl⟩
end Go.Proofs.YtblckajejohlbaaDoor
