/- The text of lines: what it is, and that both readers take it for these lines. Plain Lean. -/
import Derived.Lib.CutLaws
import Derived.Test.YtjdjkdgdbdenpaaDoorM14
import Derived.Test.YtjdjkdgdbdenpaaDoorM02
import Derived.Test.YtjdjkdgdbdenpaaDoorM04
set_option linter.unusedVariables false
set_option linter.unusedSimpArgs false
namespace Go.Proofs.YtjdjkdgdbdenpaaDoor
open Go

/-- What stands behind the label, without the line feed. -/
def body (x : Ln) : Bs := nm x.fn x.arg ++ (if x.fn = 15 then [] else 32 :: (if x.tgt.isEmpty then Lib.itoa x.arg else x.tgt ++ (if x.fr.isEmpty then [] else 45 :: x.fr)))
def front (x : Ln) : Bs := if x.lab.isEmpty then [] else x.lab ++ [58, 32]
def one (x : Ln) : Bs := front x ++ (body x ++ [10])
def No (b : UInt8) (l : Bs) : Prop := ∀ c ∈ l, c ≠ b
theorem No.app {b : UInt8} {l k : Bs} (h : No b l) (h' : No b k) : No b (l ++ k) := fun c hc => (List.mem_append.1 hc).elim (h c) (h' c)
theorem No.cons {b c : UInt8} {l : Bs} (h : c ≠ b) (h' : No b l) : No b (c :: l) := fun d hd => (List.mem_cons.1 hd).elim (fun e => e ▸ h) (h' d)
theorem No.nil (b : UInt8) : No b [] := fun _ h => (by cases h)
theorem No.tail {b c : UInt8} {l : Bs} (h : No b (c :: l)) : No b l := fun d hd => h d (List.mem_cons_of_mem _ hd)
theorem No.head {b c : UInt8} {l : Bs} (h : No b (c :: l)) : c ≠ b := h c List.mem_cons_self

/-! ### Which bytes there are -/
theorem isMid_no {c b : UInt8} (h : isMid c = true) (hb : b = 58 ∨ b = 32 ∨ b = 45 ∨ b = 10) : c ≠ b := by
  unfold isMid isLet isDig at h
  simp only [Bool.or_eq_true, Bool.and_eq_true, decide_eq_true_eq] at h
  rintro rfl
  rcases hb with rfl | rfl | rfl | rfl <;> simp at h
theorem isLet_mid {c : UInt8} (h : isLet c = true) : isMid c = true := by unfold isMid; rw [h]; rfl
theorem isLab_mid {l : Bs} (h : isLab l = true) : ∀ c ∈ l, isMid c = true := by
  cases l with
  | nil => intro c hc; cases hc
  | cons d l =>
    unfold isLab at h
    simp only [Bool.and_eq_true, List.all_eq_true] at h
    intro c hc
    rcases List.mem_cons.1 hc with rfl | hc
    · exact isLet_mid h.1.2
    · exact h.2 c hc
theorem lab_no {l : Bs} (h : orNone l = true) {b : UInt8} (hb : b = 58 ∨ b = 32 ∨ b = 45 ∨ b = 10) : No b l := by
  intro c hc
  unfold orNone at h
  rcases (Bool.or_eq_true _ _).mp h with h | h
  · cases l with
    | nil => cases hc
    | cons d l => cases h
  · exact isMid_no (isLab_mid h c hc) hb
theorem nm_mids : (insts.all fun p => (nm p.1 p.2).all isMid) = true := by decide +kernel
theorem nm_mid {f a : Int} (h0 : 0 ≤ f) (h : ex f a = true) : ∀ c ∈ nm f a, isMid c = true := by
  have hA := List.all_eq_true.1 nm_mids _ (ex_mem h0 h)
  have hn : nm f (if f = 15 then a else 0) = nm f a := by
    by_cases h15 : f = 15
    · rw [if_pos h15]
    · rw [if_neg h15]; exact (ex_nm (.inl (by have := (ex_le h).1; omega))).2.1
  rw [hn] at hA
  exact List.all_eq_true.1 hA
theorem nm_no {f a : Int} (h0 : 0 ≤ f) (h : ex f a = true) {b : UInt8} (hb : b = 58 ∨ b = 32 ∨ b = 45 ∨ b = 10) : No b (nm f a) := fun c hc => isMid_no (nm_mid h0 h c hc) hb
theorem decDigits_dig (t : Nat) : ∀ c ∈ Lib.decDigits t, isDig c = true := by
  induction t using Nat.strongRecOn with
  | _ t ih =>
    rw [Lib.decDigits]
    have hd : ∀ d, d < 10 → isDig (UInt8.ofNat (48 + d)) = true := by
      intro d hd
      have : ∀ d : Fin 10, isDig (UInt8.ofNat (48 + d.val)) = true := by decide
      exact this ⟨d, hd⟩
    by_cases h : t < 10
    · rw [dif_pos h]
      intro c hc
      rw [List.mem_singleton.1 hc]
      exact hd t h
    · rw [dif_neg h]
      intro c hc
      rcases List.mem_append.1 hc with hc | hc
      · exact ih (t / 10) (by omega) c hc
      · rw [List.mem_singleton.1 hc]
        exact hd _ (Nat.mod_lt _ (by decide))
/-- The digits of a number, a sign in front of them or not. -/
theorem itoa_form (v : Int) : (v < 0 ∧ Lib.itoa v = 45 :: Lib.decDigits v.natAbs) ∨ (¬ v < 0 ∧ Lib.itoa v = Lib.decDigits v.toNat) := by
  unfold Lib.itoa
  by_cases h : v < 0
  · exact .inl ⟨h, by simp [h]⟩
  · exact .inr ⟨h, by simp [h]⟩
theorem itoa_no (v : Int) {b : UInt8} (hb : b = 58 ∨ b = 32 ∨ b = 10) : No b (Lib.itoa v) := by
  have hd : ∀ t, No b (Lib.decDigits t) := fun t c hc => isMid_no (show isMid c = true by unfold isMid; rw [decDigits_dig t c hc]; simp) (by rcases hb with h | h | h <;> simp [h])
  rcases itoa_form v with ⟨_, e⟩ | ⟨_, e⟩ <;> rw [e]
  · exact No.cons (by rcases hb with rfl | rfl | rfl <;> decide) (hd _)
  · exact hd _
theorem itoa_head (v : Int) : ∃ c cs, Lib.itoa v = c :: cs ∧ isLet c = false ∧ (c = 45 ∨ isDig c = true) := by
  rcases itoa_form v with ⟨_, e⟩ | ⟨_, e⟩ <;> rw [e]
  · exact ⟨45, _, rfl, by decide, .inl rfl⟩
  · obtain ⟨c, cs, h, h1, h2⟩ := decDigits_head v.toNat
    refine ⟨c, cs, h, ?_, .inr ?_⟩
    · unfold isLet; simp; omega
    · unfold isDig; simp [h1, h2]

/-! ### Places in texts -/
theorem index_miss {b : UInt8} {r : Bs} : ∀ {l : Bs}, No b l → Lib.index l (b :: r) = -1
  | [], _ => rfl
  | c :: l, h => by
    have ih := index_miss (r := r) h.tail
    have hc : (b == c) = false := by simp; exact fun e => h.head e.symm
    unfold Lib.index
    rw [ih]
    simp [List.isPrefixOf, hc]
theorem index_hit {b : UInt8} {r q : Bs} : ∀ {p : Bs}, No b p → Lib.index (p ++ (b :: r ++ q)) (b :: r) = p.length
  | [], _ => by
    rw [List.nil_append, List.cons_append]
    unfold Lib.index
    have : (b :: r).isPrefixOf (b :: (r ++ q)) = true := by simp [List.isPrefixOf]
    rw [if_pos this]
    rfl
  | c :: p, h => by
    have ih := index_hit (r := r) (q := q) h.tail
    have hc : (b == c) = false := by simp; exact fun e => h.head e.symm
    rw [List.cons_append]
    unfold Lib.index
    rw [ih]
    have : (b :: r).isPrefixOf (c :: (p ++ (b :: r ++ q))) = false := by simp [List.isPrefixOf, hc]
    rw [if_neg (by rw [this]; decide), if_neg (by simp)]
    rw [List.length_cons]
    omega
theorem cut_miss {b : UInt8} {r l : Bs} (h : No b l) : Lib.cut l (b :: r) = (l, [], false) := by
  unfold Lib.cut
  rw [index_miss h, if_neg (by decide)]
theorem cut_hit {b : UInt8} {r p q : Bs} (h : No b p) : Lib.cut (p ++ (b :: r ++ q)) (b :: r) = (p, q, true) := by
  unfold Lib.cut
  rw [index_hit h, if_pos (by omega)]
  refine Prod.ext ?_ (Prod.ext ?_ rfl)
  · simp
  · show List.drop (((p.length : Int)).toNat + (b :: r).length) (p ++ (b :: r ++ q)) = q
    rw [Int.toNat_natCast, ← List.drop_drop, List.drop_left, List.drop_left]
theorem trim_nl (l : Bs) : Lib.trimSuffix (l ++ [10]) [10] = l := by
  unfold Lib.trimSuffix Lib.hasSuffix
  rw [if_pos (by simp)]
  simp

/-! ### What the program takes a text for -/
def firstLet (l : Bs) : Bool := match l with | [] => false | c :: _ => isLet c
def insC (l : Bs) : Ln :=
  if firstLet (Lib.cut l [32]).2.1 = true then ⟨[], (ndF (Lib.cut l [32]).1).toNat, 0, (Lib.cut (Lib.cut l [32]).2.1 [45]).1, (Lib.cut (Lib.cut l [32]).2.1 [45]).2.1⟩
  else ⟨[], (rdI l).1.toNat, (rdI l).2.1, [], []⟩
def labC (l : Bs) : Bs := if (Lib.cut l [58, 32]).2.2 = true then (Lib.cut l [58, 32]).1 else []
def restC (l : Bs) : Bs := if (Lib.cut l [58, 32]).2.2 = true then (Lib.cut l [58, 32]).2.1 else l
def gC (l : Bs) : Ln := { insC (Lib.trimSuffix (restC l) [10]) with lab := labC l }
def okC (l : Bs) : Bool := vld (gC l) && decide (one (gC l) = l)

/-- What is known of a valid line. -/
theorem vld_parts {x : Ln} (h : vld x = true) : orNone x.lab = true ∧ ex x.fn x.arg = true ∧ ((x.tgt = [] ∧ x.fr = []) ∨ (isLab x.tgt = true ∧ orNone x.fr = true ∧ x.arg = 0 ∧ x.fn ≠ 15)) := by
  have he := vld_ex h
  unfold vld at h
  simp only [Bool.and_eq_true] at h
  obtain ⟨h1, h⟩ := h
  refine ⟨h1, he, ?_⟩
  split at h
  · rename_i ht
    simp only [Bool.and_eq_true, List.isEmpty_iff] at h ht
    exact .inl ⟨ht, h.1⟩
  · simp only [Bool.and_eq_true, decide_eq_true_eq] at h
    exact .inr ⟨h.1.1.1.1, h.1.1.1.2, h.1.1.2, h.2⟩
theorem fn_int {f : Nat} {g : Int} (h : (f : Int) = g) : g.toNat = f := by omega
theorem body_no {x : Ln} (h : vld x = true) {b : UInt8} (hb : b = 58 ∨ b = 10) : No b (body x) := by
  obtain ⟨_, he, ht⟩ := vld_parts h
  unfold body
  refine (nm_no (by omega) he (by rcases hb with h | h <;> simp [h])).app ?_
  split
  · exact No.nil _
  · refine No.cons (by rcases hb with rfl | rfl <;> decide) ?_
    split
    · exact itoa_no _ (by rcases hb with h | h <;> simp [h])
    · rename_i hq
      rcases ht with ⟨h1, _⟩ | ⟨h1, h2, _⟩
      · rw [h1] at hq; exact absurd rfl hq
      · refine (lab_no (by unfold orNone; rw [h1]; simp) (by rcases hb with h | h <;> simp [h])).app ?_
        split
        · exact No.nil _
        · exact No.cons (by rcases hb with rfl | rfl <;> decide) (lab_no h2 (by rcases hb with h | h <;> simp [h]))
theorem rdI_body {x : Ln} (he : ex x.fn x.arg = true) (hw : -2147483648 ≤ x.arg ∧ x.arg ≤ 2147483647) (ht : x.tgt = []) : rdI (body x) = ((x.fn : Int), x.arg, 0) := by
  have hf := ex_facts (f := (x.fn : Int)) (by omega) he
  have hn : ∀ c ∈ nm x.fn x.arg, c ≠ 32 := fun c hc => (hf.2.1 c hc).1
  have h1 := hf.1
  unfold body rdI
  by_cases h15 : x.fn = 15
  · have h15' : (x.fn : Int) = 15 := by omega
    rw [if_pos h15, List.append_nil, (hd_none hn).1, h1, if_pos h15']
    show (if (x.fn : Int) = 15 then (if hasSp (nm x.fn x.arg) = true then ((0 : Int), (0 : Int), (5 : Int)) else ((x.fn : Int), x.arg, (0 : Int))) else _) = _
    rw [if_pos h15', (hd_none hn).2, if_neg (by decide)]
  · have h15' : ¬ (x.fn : Int) = 15 := by omega
    rw [if_neg h15, ht]
    simp only [List.isEmpty_nil, if_true]
    obtain ⟨e1, e2, e3⟩ := hd_cons (x := Lib.itoa x.arg) hn
    have hr := readC_text x.arg false hw.1 hw.2
    unfold textL at hr
    simp only [Bool.false_eq_true, if_false] at hr
    rw [e1, h1, e2, e3, hr]
    simp [h15']
theorem insC_body {x : Ln} (h : vld x = true) (hw : -2147483648 ≤ x.arg ∧ x.arg ≤ 2147483647) : insC (body x) = { x with lab := [] } := by
  obtain ⟨_, he, ht⟩ := vld_parts h
  have hnm : No 32 (nm x.fn x.arg) := nm_no (by omega) he (by simp)
  rcases ht with ⟨h1, h2⟩ | ⟨h1, h2, h3, h4⟩
  · have hr := rdI_body he hw h1
    have hfirst : firstLet (Lib.cut (body x) [32]).2.1 = false := by
      unfold body
      by_cases h15 : x.fn = 15
      · rw [if_pos h15, List.append_nil, cut_miss hnm]; rfl
      · rw [if_neg h15, h1]
        simp only [List.isEmpty_nil, if_true]
        rw [show (32 : UInt8) :: Lib.itoa x.arg = [32] ++ Lib.itoa x.arg from rfl, cut_hit hnm]
        obtain ⟨c, cs, e, hc, _⟩ := itoa_head x.arg
        simp only [e]
        exact hc
    unfold insC
    rw [hfirst, if_neg (by decide), hr]
    cases x
    simp only at h1 h2
    subst h1 h2
    simp
  · obtain ⟨c, cs, e, hl⟩ : ∃ c cs, x.tgt = c :: cs ∧ isLet c = true := by
      cases hx : x.tgt with
      | nil => rw [hx] at h1; cases h1
      | cons c cs =>
        rw [hx] at h1
        unfold isLab at h1
        simp only [Bool.and_eq_true] at h1
        exact ⟨c, cs, rfl, h1.1.2⟩
    have hcut : Lib.cut (body x) [32] = (nm x.fn x.arg, x.tgt ++ (if x.fr.isEmpty then [] else 45 :: x.fr), true) := by
      unfold body
      rw [if_neg h4, if_neg (by rw [e]; simp)]
      exact cut_hit (r := []) hnm
    have hfind := (ex_facts (f := (x.fn : Int)) (by omega) he).1
    have hF : ndF (nm x.fn x.arg) = x.fn := by unfold ndF; rw [hfind]; rfl
    have hT : No 45 x.tgt := lab_no (by unfold orNone; rw [h1]; simp) (by simp)
    unfold insC
    rw [hcut]
    simp only
    rw [if_pos (by rw [e]; exact hl), hF]
    have hcut2 : Lib.cut (x.tgt ++ (if x.fr.isEmpty then [] else 45 :: x.fr)) [45] = (x.tgt, x.fr, !x.fr.isEmpty) := by
      cases hx : x.fr with
      | nil => simp only [List.isEmpty_nil, if_true, List.append_nil]; exact cut_miss hT
      | cons d ds => exact cut_hit (r := []) (q := d :: ds) hT
    rw [hcut2]
    cases x
    simp only at h3
    subst h3
    simp
/-- The program takes the text of a valid line for this line. -/
theorem gC_one {x : Ln} (h : vld x = true) (hw : -2147483648 ≤ x.arg ∧ x.arg ≤ 2147483647) : gC (one x) = x := by
  obtain ⟨hl, _, _⟩ := vld_parts h
  have hb : No 58 (body x ++ [10]) := (body_no h (.inl rfl)).app (No.cons (by decide) (No.nil _))
  have hi := insC_body h hw
  have e1 : labC (one x) = x.lab ∧ restC (one x) = body x ++ [10] := by
    unfold labC restC one front
    cases hx : x.lab with
    | nil =>
      simp only [List.isEmpty_nil, if_true, List.nil_append]
      rw [cut_miss hb]
      exact ⟨rfl, rfl⟩
    | cons c cs =>
      have hc := cut_hit (b := 58) (r := [32]) (q := body x ++ [10]) (lab_no hl (.inl rfl))
      rw [hx] at hc
      simp only [List.isEmpty_cons, Bool.false_eq_true, if_false]
      rw [List.append_assoc, show ([58, 32] : Bs) ++ (body x ++ [10]) = 58 :: [32] ++ (body x ++ [10]) from rfl, hc]
      exact ⟨rfl, rfl⟩
  unfold gC
  rw [e1.1, e1.2, trim_nl, hi]
theorem okC_one {x : Ln} (h : vld x = true) (hw : -2147483648 ≤ x.arg ∧ x.arg ≤ 2147483647) : okC (one x) = true := by
  unfold okC
  rw [gC_one h hw, h]
  simp

/-! ### What the reference takes a text for -/
def upto (l : Bs) (c : UInt8) : Nat := (l.takeWhile (· != c)).length
def numR (l : Bs) : Int := redW (if l.head? = some 45 then -(valL 10 (l.take 11) 0 : Nat) else (valL 10 (l.take 11) 0 : Nat))
def isNum (l : Bs) : Bool := match l with | [] => false | c :: _ => decide (c = 45) || isDig c
def gR0 (l : Bs) : Ln :=
  if upto l 32 = l.length then ⟨[], (ndF l).toNat, ndA l, [], []⟩
  else if isNum (l.drop (upto l 32 + 1)) = true then ⟨[], (ndF (l.take (upto l 32))).toNat, numR (l.drop (upto l 32 + 1)), [], []⟩
  else ⟨[], (ndF (l.take (upto l 32))).toNat, ndA (l.take (upto l 32)), (l.drop (upto l 32 + 1)).take (upto (l.drop (upto l 32 + 1)) 45), (l.drop (upto l 32 + 1)).drop (upto (l.drop (upto l 32 + 1)) 45 + 1)⟩
def gR (l : Bs) : Ln := if upto l 58 + 1 < l.length then { gR0 (l.drop (upto l 58 + 2)) with lab := l.take (upto l 58) } else gR0 l
theorem upto_miss {c : UInt8} {l : Bs} (h : No c l) : upto l c = l.length := by
  unfold upto
  have := List.takeWhile_append_of_pos (p := (· != c)) (l₁ := l) (l₂ := []) (by intro d hd; simpa using h d hd)
  rw [List.append_nil] at this
  rw [this]; simp
theorem upto_hit {c : UInt8} {p q : Bs} (h : No c p) : upto (p ++ c :: q) c = p.length := by
  unfold upto
  rw [List.takeWhile_append_of_pos (by intro d hd; simpa using h d hd)]
  simp
theorem drop_hit (c : UInt8) (p q : Bs) : (p ++ c :: q).drop (p.length + 1) = q := by
  rw [← List.drop_drop, List.drop_left]; rfl
theorem numR_itoa {v : Int} (h0 : -2147483648 ≤ v) (h1 : v ≤ 2147483647) : numR (Lib.itoa v) = v := by
  have hlen := (text_len v false h0 h1).2
  unfold textL at hlen
  simp only [Bool.false_eq_true, if_false] at hlen
  have hr := readR_text v false h0 h1
  unfold numR
  rw [List.take_of_length_le hlen]
  rcases itoa_form v with ⟨hn, e⟩ | ⟨hn, e⟩
  · rw [e, List.head?_cons, if_pos rfl]
    have hv : valL 10 (45 :: Lib.decDigits v.natAbs) 0 = v.natAbs := by
      have := natL_valL _ _ (natL_dec v.natAbs (by omega))
      exact this
    rw [hv, show -((v.natAbs : Nat) : Int) = v by omega]
    exact redW_in v h0 h1
  · rw [e]
    obtain ⟨c, cs, hc, c0, c1⟩ := decDigits_head v.toNat
    rw [if_neg (by rw [hc, List.head?_cons]; intro e; injection e with e; rw [e] at c0; exact absurd c0 (by decide))]
    rw [natL_valL _ _ (natL_dec v.toNat (by omega)), show ((v.toNat : Nat) : Int) = v by omega]
    exact redW_in v h0 h1
theorem gR0_body {x : Ln} (h : vld x = true) (hw : -2147483648 ≤ x.arg ∧ x.arg ≤ 2147483647) : gR0 (body x) = { x with lab := [] } := by
  obtain ⟨_, he, ht⟩ := vld_parts h
  have hnm : No 32 (nm x.fn x.arg) := nm_no (by omega) he (by simp)
  have hfind := (ex_facts (f := (x.fn : Int)) (by omega) he).1
  have hF : ndF (nm x.fn x.arg) = x.fn := by unfold ndF; rw [hfind]; rfl
  have hA : ndA (nm x.fn x.arg) = if (x.fn : Int) = 15 then x.arg else 0 := by unfold ndA; rw [hfind]; rfl
  by_cases h15 : x.fn = 15
  · rcases ht with ⟨h1, h2⟩ | ⟨_, _, _, h4⟩
    · have e : body x = nm x.fn x.arg := by unfold body; rw [if_pos h15, List.append_nil]
      unfold gR0
      rw [e, upto_miss hnm, if_pos rfl, hF, hA, if_pos (by omega)]
      cases x
      simp only at h1 h2
      subst h1 h2
      simp
    · exact absurd h15 h4
  · obtain ⟨op, hop⟩ : ∃ op, (if x.tgt.isEmpty then Lib.itoa x.arg else x.tgt ++ (if x.fr.isEmpty then [] else 45 :: x.fr)) = op := ⟨_, rfl⟩
    have e : body x = nm x.fn x.arg ++ 32 :: op := by unfold body; rw [if_neg h15, hop]
    have e1 : upto (body x) 32 = (nm x.fn x.arg).length := by rw [e]; exact upto_hit hnm
    have e2 : (body x).drop ((nm x.fn x.arg).length + 1) = op := by rw [e]; exact drop_hit 32 _ _
    have e3 : (body x).take (nm x.fn x.arg).length = nm x.fn x.arg := by rw [e]; simp
    have hne : ¬ (nm x.fn x.arg).length = (body x).length := by rw [e]; simp
    unfold gR0
    rw [e1, e2, e3, if_neg hne, hF, hA, if_neg (show ¬ (x.fn : Int) = 15 by omega)]
    rcases ht with ⟨h1, h2⟩ | ⟨h1, h2, h3, h4⟩
    · rw [h1] at hop
      simp only [List.isEmpty_nil, if_true] at hop
      subst hop
      obtain ⟨c, cs, ec, _, hc⟩ := itoa_head x.arg
      rw [if_pos (by rw [ec]; unfold isNum; rcases hc with hc | hc <;> simp [hc]), numR_itoa hw.1 hw.2]
      cases x
      simp only at h1 h2
      subst h1 h2
      simp
    · obtain ⟨c, cs, ec, hl⟩ : ∃ c cs, x.tgt = c :: cs ∧ isLet c = true := by
        cases hx : x.tgt with
        | nil => rw [hx] at h1; cases h1
        | cons c cs =>
          rw [hx] at h1
          unfold isLab at h1
          simp only [Bool.and_eq_true] at h1
          exact ⟨c, cs, rfl, h1.1.2⟩
      rw [if_neg (by rw [ec]; simp)] at hop
      have hT : No 45 x.tgt := lab_no (by unfold orNone; rw [h1]; simp) (by simp)
      have hnn : isNum op = false := by
        rw [← hop, ec]
        unfold isNum isDig
        unfold isLet at hl
        simp only [Bool.or_eq_true, Bool.and_eq_true, decide_eq_true_eq] at hl
        simp only [List.cons_append, Bool.or_eq_false_iff, decide_eq_false_iff_not, Bool.and_eq_false_iff]
        refine ⟨fun e => ?_, ?_⟩
        · rw [e] at hl; simp at hl
        · omega
      rw [if_neg (by rw [hnn]; decide)]
      cases hx : x.fr with
      | nil =>
        rw [hx] at hop
        simp only [List.isEmpty_nil, if_true, List.append_nil] at hop
        subst hop
        rw [upto_miss hT, List.take_length, List.drop_eq_nil_of_le (by omega)]
        cases x
        simp only at h3 hx
        subst h3 hx
        simp
      | cons d ds =>
        rw [hx] at hop
        simp only [List.isEmpty_cons, Bool.false_eq_true, if_false] at hop
        subst hop
        rw [upto_hit hT, drop_hit 45, List.take_left]
        cases x
        simp only at h3 hx
        subst h3 hx
        simp
/-- The reference takes the text of a valid line for this line. -/
theorem gR_body {x : Ln} (h : vld x = true) (hw : -2147483648 ≤ x.arg ∧ x.arg ≤ 2147483647) : gR (front x ++ body x) = x := by
  obtain ⟨hl, he, _⟩ := vld_parts h
  have hb : No 58 (body x) := body_no h (.inl rfl)
  have hi := gR0_body h hw
  unfold gR front
  cases hx : x.lab with
  | nil =>
    simp only [List.isEmpty_nil, if_true, List.nil_append]
    rw [upto_miss hb, if_neg (by omega), hi]
    cases x
    simp only at hx
    subst hx
    rfl
  | cons c cs =>
    have h58 : No 58 (c :: cs) := by have := lab_no hl (b := 58) (.inl rfl); rwa [hx] at this
    simp only [List.isEmpty_cons, Bool.false_eq_true, if_false]
    have e : (c :: cs) ++ [58, 32] ++ body x = (c :: cs) ++ 58 :: (32 :: body x) := by simp
    rw [e, upto_hit h58, if_pos (by simp), List.take_left, ← List.drop_drop, List.drop_left]
    simp only [List.drop_succ_cons, List.drop_zero]
    rw [hi]
    cases x
    simp only at hx
    subst hx
    rfl
/-! ### Both readers agree -/
def okR (l : Bs) : Bool := vld (gR l) && decide (one (gR l) = l ++ [10])
/-- The operand of a line is a word. -/
def Wd (x : Ln) : Prop := -2147483648 ≤ x.arg ∧ x.arg ≤ 2147483647
theorem rdI_word (l : Bs) : -2147483648 ≤ (rdI l).2.1 ∧ (rdI l).2.1 ≤ 2147483647 := by
  unfold rdI
  split
  · decide
  · rename_i p hp
    obtain ⟨_, _, _, _, h1, h2, _⟩ := find_some hp
    split
    · split
      · decide
      · exact ⟨by show -2147483648 ≤ p.2; omega, by show p.2 ≤ 2147483647; omega⟩
    · split
      · split
        · show -2147483648 ≤ (readC (tl l)).1 ∧ (readC (tl l)).1 ≤ 2147483647
          rcases readC_cases (tl l) with h | ⟨v, hex, h0, h1', e⟩
          · rw [h]; decide
          · rw [← e, readC_text v hex h0 h1']
            exact ⟨h0, h1'⟩
        · decide
      · decide
theorem gC_word (l : Bs) : Wd (gC l) := by
  show -2147483648 ≤ (insC (Lib.trimSuffix (restC l) [10])).arg ∧ (insC (Lib.trimSuffix (restC l) [10])).arg ≤ 2147483647
  generalize Lib.trimSuffix (restC l) [10] = k
  unfold insC
  split
  · exact ⟨show (-2147483648 : Int) ≤ 0 by decide, show (0 : Int) ≤ 2147483647 by decide⟩
  · exact rdI_word k
theorem gR0_word (l : Bs) : Wd (gR0 l) := by
  have hA : ∀ k : Bs, -2147483648 ≤ ndA k ∧ ndA k ≤ 2147483647 := fun k => by have := nd_bd k; omega
  unfold gR0
  split
  · exact hA _
  · split
    · exact redW_bd _
    · exact hA _
theorem gR_word (l : Bs) : Wd (gR l) := by
  unfold gR
  split
  · exact gR0_word _
  · exact gR0_word _
theorem okR_eq (l : Bs) : okR l = okC (l ++ [10]) ∧ (okR l = true → gR l = gC (l ++ [10])) := by
  have A : okR l = true → okC (l ++ [10]) = true ∧ gR l = gC (l ++ [10]) := by
    intro h
    unfold okR at h
    simp only [Bool.and_eq_true, decide_eq_true_eq] at h
    have h1 := gC_one h.1 (gR_word l)
    have h2 := okC_one h.1 (gR_word l)
    rw [h.2] at h1 h2
    exact ⟨h2, h1.symm⟩
  have B : okC (l ++ [10]) = true → okR l = true := by
    intro h
    unfold okC at h
    simp only [Bool.and_eq_true, decide_eq_true_eq] at h
    have h1 : front (gC (l ++ [10])) ++ body (gC (l ++ [10])) = l := by
      have := h.2
      unfold one at this
      rw [← List.append_assoc] at this
      exact List.append_cancel_right this
    have h2 := gR_body h.1 (gC_word _)
    rw [h1] at h2
    unfold okR
    rw [h2, h.1, h.2]
    simp
  refine ⟨?_, fun h => (A h).2⟩
  by_cases h : okR l = true
  · rw [h, (A h).1]
  · rw [Bool.eq_false_iff.2 h, Bool.eq_false_iff.2 (fun h' => h (B h'))]

/-! ### The lines of a text -/
def spl : Bs → List Bs
  | [] => []
  | c :: cs => if c = 10 then [10] :: spl cs else match spl cs with
    | [] => [[c]]
    | h :: t => (c :: h) :: t
theorem spl_hit {p q : Bs} (h : No 10 p) : spl (p ++ 10 :: q) = (p ++ [10]) :: spl q := by
  induction p with
  | nil => simp [spl]
  | cons c p ih =>
    rw [List.cons_append]
    show (if c = 10 then _ else _) = _
    rw [if_neg h.head, ih h.tail]
    rfl
theorem spl_miss {p : Bs} (h : No 10 p) (h0 : p ≠ []) : spl p = [p] := by
  induction p with
  | nil => exact absurd rfl h0
  | cons c p ih =>
    unfold spl
    rw [if_neg h.head]
    by_cases hp : p = []
    · subst hp; rfl
    · rw [ih h.tail hp]
theorem one_no {x : Ln} (h : vld x = true) : No 10 (front x ++ body x) := by
  refine No.app ?_ (body_no h (.inr rfl))
  unfold front
  split
  · exact No.nil _
  · exact (lab_no (vld_parts h).1 (by simp)).app (No.cons (by decide) (No.cons (by decide) (No.nil _)))
theorem spl_one {x : Ln} (h : vld x = true) (q : Bs) : spl (one x ++ q) = one x :: spl q := by
  have := spl_hit (q := q) (one_no h)
  unfold one
  rw [← List.append_assoc, List.append_assoc, List.singleton_append]
  exact this
def txt (ls : List Ln) : Bs := ls.flatMap one
theorem spl_txt {ls : List Ln} (h : ls.all vld = true) : spl (txt ls) = ls.map one := by
  induction ls with
  | nil => rfl
  | cons x ls ih =>
    simp only [List.all_cons, Bool.and_eq_true] at h
    show spl (one x ++ txt ls) = _
    rw [spl_one h.1, ih h.2]
    rfl
def badAt (k : List Bs) : Option Nat := k.findIdx? fun l => !okC l
def rdL (s : Bs) : List Ln := match badAt (spl s) with | none => (spl s).map gC | some _ => []
def rdN (s : Bs) : Int := match badAt (spl s) with | none => 0 | some k => (k : Int) + 1
def rdE (s : Bs) : Int := match badAt (spl s) with | none => 0 | some _ => 5
theorem rd_txt {ls : List Ln} (h : ls.all vld = true) (hw : ∀ x ∈ ls, Wd x) : rdL (txt ls) = ls ∧ rdN (txt ls) = 0 ∧ rdE (txt ls) = 0 := by
  have hv : ∀ x ∈ ls, vld x = true := List.all_eq_true.1 h
  have hb : badAt (spl (txt ls)) = none := by
    rw [spl_txt h]
    unfold badAt
    rw [List.findIdx?_eq_none_iff]
    intro l hl
    obtain ⟨x, hx, rfl⟩ := List.mem_map.1 hl
    rw [okC_one (hv x hx) (hw x hx)]
    rfl
  unfold rdL rdN rdE
  rw [hb]
  refine ⟨?_, rfl, rfl⟩
  simp only
  rw [spl_txt h, List.map_map]
  conv => rhs; rw [← List.map_id ls]
  exact List.map_congr_left fun x hx => gC_one (hv x hx) (hw x hx)
end Go.Proofs.YtjdjkdgdbdenpaaDoor
/- Reading lines one by one. Plain Lean. -/
namespace Go.Proofs.YtjdjkdgdbdenpaaDoor
open Go

theorem one_last (x : Ln) : ∃ p, one x = p ++ [10] := ⟨front x ++ body x, by unfold one; simp⟩
theorem okC_no {l : Bs} (h : No 10 l) : okC l = false := by
  rw [Bool.eq_false_iff]
  intro h2
  unfold okC at h2
  simp only [Bool.and_eq_true, decide_eq_true_eq] at h2
  obtain ⟨p, hp⟩ := one_last (gC l)
  rw [hp] at h2
  exact h 10 (by rw [← h2.2]; simp) rfl
theorem spl_last {r : Bs} (h : No 10 r) (hr : r ≠ []) : spl r = [r] := by
  induction r with
  | nil => exact absurd rfl hr
  | cons c cs ih =>
    have hc : c ≠ 10 := h.head
    unfold spl
    rw [if_neg hc]
    cases cs with
    | nil => rfl
    | cons d ds => rw [ih h.tail (by simp)]
/-- The lines ds have been read, and r is left. -/
def RdInv (s r : Bs) (ds : List Bs) : Prop := spl s = ds ++ spl r ∧ ∀ d ∈ ds, okC d = true
theorem rd_start (s : Bs) : RdInv s s [] := ⟨rfl, fun _ hd => (by cases hd)⟩
theorem rd_next {s p q : Bs} {ds : List Bs} (h : RdInv s (p ++ 10 :: q) ds) (hp : No 10 p) (ho : okC (p ++ [10]) = true) : RdInv s q (ds ++ [p ++ [10]]) := by
  refine ⟨by rw [h.1, spl_hit hp]; simp, fun d hd => ?_⟩
  rcases List.mem_append.1 hd with hd | hd
  · exact h.2 d hd
  · rw [List.mem_singleton.1 hd]; exact ho
theorem bad_skip {ds k : List Bs} (h : ∀ d ∈ ds, okC d = true) : badAt (ds ++ k) = (badAt k).map (· + ds.length) := by
  unfold badAt
  rw [List.findIdx?_append]
  have : ds.findIdx? (fun l => !okC l) = none := by
    rw [List.findIdx?_eq_none_iff]
    intro d hd
    rw [h d hd]; rfl
  rw [this]
  simp
theorem rd_end {s : Bs} {ds : List Bs} (h : RdInv s [] ds) : rdL s = ds.map gC ∧ rdN s = 0 ∧ rdE s = 0 := by
  have h1 : spl s = ds := by rw [h.1]; simp [spl]
  have h2 : badAt ds = none := by
    have := bad_skip (k := []) h.2
    rw [List.append_nil] at this
    rw [this]; rfl
  unfold rdL rdN rdE
  rw [h1, h2]
  exact ⟨rfl, rfl, rfl⟩
theorem rd_bad {s r b : Bs} {ds k : List Bs} (h : RdInv s r ds) (hr : spl r = b :: k) (hb : okC b = false) : rdL s = [] ∧ rdN s = (ds.length : Int) + 1 ∧ rdE s = 5 := by
  have h2 : badAt (spl s) = some ds.length := by
    rw [h.1, hr, bad_skip h.2]
    unfold badAt
    simp [List.findIdx?_cons, hb]
  unfold rdL rdN rdE
  rw [h2]
  exact ⟨rfl, rfl, rfl⟩
/-- What is left, parted at its first line feed. -/
theorem rest_part (r : Bs) : (upto r 10 = r.length ∧ No 10 r) ∨ (upto r 10 < r.length ∧ No 10 (r.take (upto r 10)) ∧ r = r.take (upto r 10) ++ 10 :: r.drop (upto r 10 + 1)) := by
  induction r with
  | nil => exact .inl ⟨rfl, No.nil _⟩
  | cons c cs ih =>
    by_cases hc : c = 10
    · subst hc
      exact .inr ⟨by simp [upto], by simp [upto, No], by simp [upto]⟩
    · have e : upto (c :: cs) 10 = upto cs 10 + 1 := by
        unfold upto
        rw [List.takeWhile_cons_of_pos (by simpa using hc)]
        rfl
      rw [e]
      rcases ih with ⟨h1, h2⟩ | ⟨h1, h2, h3⟩
      · exact .inl ⟨by rw [h1]; rfl, No.cons hc h2⟩
      · refine .inr ⟨by simp only [List.length_cons]; omega, ?_, ?_⟩
        · rw [List.take_succ_cons]; exact No.cons hc h2
        · rw [List.take_succ_cons, List.drop_succ_cons, List.cons_append, ← h3]
end Go.Proofs.YtjdjkdgdbdenpaaDoor
/- Letters, digits, labels: the program's and the reference's. -/
namespace Go.Proofs.YtjdjkdgdbdenpaaDoor
open Go Go.RowKit

theorem isLet_as (n : Nat) (c : UInt8) (h : c.toNat = n) : isLet c = ((decide (65 ≤ n) && decide (n ≤ 90)) || (decide (97 ≤ n) && decide (n ≤ 122))) := by subst h; rfl
theorem isDig_as (n : Nat) (c : UInt8) (h : c.toNat = n) : isDig c = (decide (48 ≤ n) && decide (n ≤ 57)) := by subst h; rfl
theorem isLetter_any (c : UInt8) (w : World) : Calls Tryd.prog 63 #[.int .u8 (c.toNat : Int)] w fun e w' => e = .returned (.bool (isLet c)) ∧ w = w' := by
  obtain ⟨n, hn⟩ : ∃ n, c.toNat = n := ⟨_, rfl⟩
  rw [isLet_as n c hn, hn]
  clear hn
  by_cases h1 : (65 : Int) ≤ (n : Int) <;> by_cases h2 : (n : Int) ≤ 90 <;> by_cases h3 : (97 : Int) ≤ (n : Int) <;> by_cases h4 : (n : Int) ≤ 122
  all_goals
    have k1 : decide (65 ≤ n) = decide ((65 : Int) ≤ (n : Int)) := by simp only [decide_eq_decide]; omega
    have k2 : decide (n ≤ 90) = decide ((n : Int) ≤ 90) := by simp only [decide_eq_decide]; omega
    have k3 : decide (97 ≤ n) = decide ((97 : Int) ≤ (n : Int)) := by simp only [decide_eq_decide]; omega
    have k4 : decide (n ≤ 122) = decide ((n : Int) ≤ 122) := by simp only [decide_eq_decide]; omega
    rw [k1, k2, k3, k4]
    clear k1 k2 k3 k4
    simp only [h1, h2, h3, h4, decide_true, decide_false, Bool.and_true, Bool.and_false, Bool.or_true, Bool.or_false]
    go_enter Tryd.func63, Tryd.ntmps63
    go_wp2
    go_ret
    exact ⟨rfl, rfl⟩
theorem isDigit_any (c : UInt8) (w : World) : Calls Tryd.prog 68 #[.int .u8 (c.toNat : Int)] w fun e w' => e = .returned (.bool (isDig c)) ∧ w = w' := by
  obtain ⟨n, hn⟩ : ∃ n, c.toNat = n := ⟨_, rfl⟩
  rw [isDig_as n c hn, hn]
  clear hn
  by_cases h1 : (48 : Int) ≤ (n : Int) <;> by_cases h2 : (n : Int) ≤ 57
  all_goals
    have k1 : decide (48 ≤ n) = decide ((48 : Int) ≤ (n : Int)) := by simp only [decide_eq_decide]; omega
    have k2 : decide (n ≤ 57) = decide ((n : Int) ≤ 57) := by simp only [decide_eq_decide]; omega
    rw [k1, k2]
    clear k1 k2
    simp only [h1, h2, decide_true, decide_false, Bool.and_true, Bool.and_false]
    go_enter Tryd.func68, Tryd.ntmps68
    go_wp2
    go_ret
    exact ⟨rfl, rfl⟩
theorem size_strOf (l : Bs) : (strOf l).size = l.length := by
  show (strOf l).data.size = _
  simp [strOf]
theorem index_l (l : Bs) (k : Nat) (h : k < l.length) (W : World) : (Instr.index 9 (.string (strOf l)) (.int .i64 (k : Int))).run Tryd.prog W = .ok (.int .u8 ((l.getD k 0).toNat : Int)) W := by
  rw [index_str (strOf l) k (by rw [size_strOf]; exact h)]
  have : (strOf l)[k]'(by rw [size_strOf]; exact h) = l.getD k 0 := by
    show (strOf l).data[k]'_ = _
    simp [strOf, h]
  rw [this]
theorem isLab_eq (l : Bs) : isLab l = (!l.isEmpty && decide (l.length ≤ 32) && isLet (l.getD 0 0) && l.all isMid) := by
  cases l with
  | nil => rfl
  | cons c cs =>
    have e : decide (cs.length < 32) = decide ((c :: cs).length ≤ 32) := by simp only [List.length_cons, decide_eq_decide]; omega
    show (decide (cs.length < 32) && isLet c && cs.all isMid) = _
    rw [e]
    simp only [List.isEmpty_cons, Bool.not_false, Bool.true_and, List.getD_cons_zero, List.all_cons]
    cases hc : isLet c with
    | false => simp
    | true => rw [isLet_mid hc]; simp
theorem isLab_no1 : isLab [] = false := rfl
theorem isLab_no2 {l : Bs} (h : 32 < l.length) : isLab l = false := by rw [isLab_eq]; simp; omega
theorem isLab_no3 {l : Bs} (h : isLet (l.getD 0 0) = false) : isLab l = false := by rw [isLab_eq, h]; simp
theorem isLab_no4 {l : Bs} {k : Nat} (hk : k < l.length) (h : isMid (l.getD k 0) = false) : isLab l = false := by
  rw [isLab_eq]
  have : l.all isMid = false := by
    rw [List.all_eq_false]
    refine ⟨l[k], List.getElem_mem hk, ?_⟩
    have e : l.getD k 0 = l[k] := by simp [hk]
    rw [← e, h]; decide
  rw [this]; simp
theorem isLab_yes {l : Bs} (h0 : l ≠ []) (h1 : l.length ≤ 32) (h2 : isLet (l.getD 0 0) = true) (h3 : l.all isMid = true) : isLab l = true := by
  rw [isLab_eq, h2, h3]
  cases l with
  | nil => exact absurd rfl h0
  | cons c cs => simpa using h1
theorem all_snoc {p : UInt8 → Bool} {l : Bs} {k : Nat} (hk : k < l.length) (h : (l.take k).all p = true) (h' : p (l.getD k 0) = true) : (l.take (k + 1)).all p = true := by
  rw [List.take_succ_eq_append_getElem hk, List.all_append, h]
  have e : l.getD k 0 = l[k] := by simp [hk]
  rw [e] at h'
  simp [h']
/-- The program's test of a byte of a label. -/
theorem mid_of (c : UInt8) : isMid c = (isLet c || (isDig c || ((c.toNat : Int) == 46))) := by
  unfold isMid
  rw [Bool.or_assoc]
  congr 2
  by_cases h : c.toNat = 46
  · rw [h]; rfl
  · rw [decide_eq_false h]; simp; omega
set_option maxRecDepth 100000 in
set_option maxHeartbeats 4000000 in
theorem isLabel_any (l : Bs) (w : World) (hm : l.length ≤ maxLen) : Calls Tryd.prog 55 #[.string (strOf l)] w fun e w' => e = .returned (.bool (isLab l)) ∧ w = w' := by
  unfold maxLen at hm
  have hsz := size_strOf l
  have he := strOf_empty l
  by_cases h0 : l = []
  · subst h0
    rw [isLab_no1]
    rw [List.isEmpty_nil] at he
    go_enter Tryd.func55, Tryd.ntmps55
    go_wp2
    go_ret
    exact ⟨rfl, rfl⟩
  · have he' : (strOf l).toList.isEmpty = false := by rw [he]; cases l with | nil => exact absurd rfl h0 | cons c cs => rfl
    have hpos : 0 < l.length := List.length_pos_iff.2 h0
    clear he
    obtain ⟨n, hn⟩ : ∃ n, l.length = n := ⟨_, rfl⟩
    rw [hn] at hsz hpos hm
    by_cases h1 : 32 < n
    · rw [isLab_no2 (by omega)]
      have q : (32 : Int) < (n : Int) := by omega
      clear hn
      go_enter Tryd.func55, Tryd.ntmps55
      go_wp2
      go_ret
      exact ⟨rfl, rfl⟩
    · have q : ¬ (32 : Int) < (n : Int) := by omega
      have hi0 : ∀ W : World, (Instr.index 9 (.string (strOf l)) (.int .i64 0)).run Tryd.prog W = .ok (.int .u8 ((l.getD 0 0).toNat : Int)) W := fun W => index_l l 0 (by omega) W
      cases hl : isLet (l.getD 0 0) with
      | false =>
        rw [isLab_no3 hl]
        generalize l.getD 0 0 = c at *
        have C := isLetter_any c
        rw [hl] at C
        have C := Lib.hid C
        clear hl hn
        go_enter Tryd.func55, Tryd.ntmps55
        go_wp2_with (go_at_call 63; refine (C.out _).mono ?_; rintro e w1 ⟨rfl, rfl⟩)
        go_ret
        exact ⟨rfl, rfl⟩
      | true =>
        have HL := Lib.hid (fun (g1 : l.length ≤ 32) (g3 : l.all isMid = true) => isLab_yes h0 g1 hl g3)
        generalize l.getD 0 0 = c at *
        have C := isLetter_any c
        rw [hl] at C
        have C := Lib.hid C
        have HN := Lib.hid hn
        clear hl hn
        go_enter Tryd.func55, Tryd.ntmps55
        go_wp2_with (go_at_call 63; refine (C.out _).mono ?_; rintro e w1 ⟨rfl, rfl⟩)
        go_loop [20] (fun i => ∃ k : Nat, k ≤ n ∧ i = .int .i64 k ∧ Hid ((l.take k).all isMid = true)) (fun i => n - (intOf i).toNat)
        case atStart => exact ⟨0, Nat.zero_le _, rfl, Lib.hid rfl⟩
        case round =>
          obtain ⟨k, hk, rfl, HA⟩ := hrel
          by_cases hlt : (k : Int) < (n : Int)
          · have hi := fun W => index_l l k (by have := HN.out; omega) W
            have hkl : k < l.length := by have := HN.out; omega
            have HS := Lib.hid (fun h => all_snoc hkl HA.out h)
            have HF := Lib.hid (fun h => isLab_no4 hkl h)
            have hmid := mid_of (l.getD k 0)
            generalize l.getD k 0 = d at *
            have CL := isLetter_any d
            have CD := isDigit_any d
            cases h1 : isLet d <;> cases h2 : isDig d <;> cases h3 : ((d.toNat : Int) == 46)
            all_goals
              rw [h1] at CL hmid
              rw [h2] at CD hmid
              rw [h3] at hmid
              have HM := Lib.hid hmid
              have CL := Lib.hid CL
              have CD := Lib.hid CD
              have h4 : ((d.toNat : Int) != 46) = !((d.toNat : Int) == 46) := rfl
              rw [h3] at h4
              clear hmid h1 h2 hkl
              go_wp2_with (first | (go_at_call 63; refine (CL.out _).mono ?_; rintro e w1 ⟨rfl, rfl⟩) | (go_at_call 68; refine (CD.out _).mono ?_; rintro e w1 ⟨rfl, rfl⟩))
              first
                | (go_round
                   case rel => exact ⟨k + 1, by omega, by go_num, Lib.hid (HS.out HM.out)⟩
                   case measure => simp [intOf]; omega)
                | (go_ret
                   rw [HF.out HM.out]
                   exact ⟨rfl, rfl⟩)
          · obtain rfl : k = n := by omega
            have HY := Lib.hid (HL.out (by have := HN.out; omega) (by have := HA.out; rwa [List.take_of_length_le (by have := HN.out; omega)] at this))
            go_wp2
            go_ret
            rw [HY.out]
            exact ⟨rfl, rfl⟩
end Go.Proofs.YtjdjkdgdbdenpaaDoor
