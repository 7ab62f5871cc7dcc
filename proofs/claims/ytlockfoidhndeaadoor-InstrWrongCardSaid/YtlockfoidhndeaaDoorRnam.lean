/- The reference's search for a mnemonic. -/
import Derived.Test.YtlockfoidhndeaaDoorRfinc
import Derived.Deep.AppendLies
namespace Go.Proofs.YtlockfoidhndeaaDoor
open Go Go.RowKit

theorem rrow_info : (Tryd.prog.info? 25).map (fun i => (i.zero, i.size, i.bytes)) = some (some (.agg #[.int .u8 0, .int .i32 0, .string ⟨#[]⟩, .int .i64 0, .int .i64 0]), 5, 40) := by kernel_rfl
theorem flat_len (l : List (Int × Int)) : (l.flatMap row5).length = l.length * 5 := by
  induction l with
  | nil => rfl
  | cons x l ih => rw [List.flatMap_cons, List.length_append, ih, List.length_cons]; show 5 + _ = _; omega
theorem flat_one (l : List (Int × Int)) : ∀ u ∈ l.flatMap row5, u.oneCell' = true := by
  intro u hu
  obtain ⟨p, _, hp⟩ := List.mem_flatMap.1 hu
  unfold row5 at hp
  simp at hp
  rcases hp with rfl | rfl | rfl | rfl | rfl <;> rfl
theorem insts_len : insts.length = 87 := by decide +kernel
theorem flat_insts : (upF 15).flatMap row5 ++ (upO 90).flatMap row5 = insts.flatMap row5 := by rw [insts_eq, List.flatMap_append]
theorem owns_of {W : World} {g n B : Nat} {ps : List (Int × Int)} (h : BoxS W g 25 (ps.flatMap row5).toArray) (hn : ps.length = n) (hB : B ≤ g) (hm : n ≤ 1000) :
    W.ownsRow B 25 5 (.slice (some ⟨g, 0, none⟩) n n) n (ps.flatMap row5) := by
  have hl := flat_len ps
  rw [hn] at hl
  refine ⟨hl, .inr ⟨g, n, _, rfl, hB, h, Nat.le_refl _, by unfold maxLen; omega, by simpa using hl, ?_⟩⟩
  show (ps.flatMap row5).take (n * 5) = _
  rw [← hl, List.take_length]
theorem rows_own {W : World} {B g n cap : Nat} {ps : List (Int × Int)} (h : W.ownsRow B 25 5 (.slice (some ⟨g, 0, none⟩) n cap) n (ps.flatMap row5)) {k : Nat} {p : Int × Int} (hk : ps[k]? = some p) :
    W.cell? ⟨g, k * 5, none⟩ = some (.int .u8 p.1) ∧ W.cell? ⟨g, k * 5 + 1, none⟩ = some (.int .i32 p.2) ∧ W.cell? ⟨g, k * 5 + 2, none⟩ = some (.string (strOf (nm p.1 p.2))) := by
  obtain ⟨hl, h2⟩ := h
  rcases h2 with ⟨h0, _⟩ | ⟨g', cap', cur, hv, _, hb, _, _, _, ht⟩
  · cases h0
  · injection hv with e1 _ _
    injection e1 with e1
    injection e1 with e1 _ _
    subst e1
    have hlk : k < ps.length := (List.getElem?_eq_some_iff.1 hk).1
    have hn : ps.length * 5 = n * 5 := by rw [← flat_len]; exact hl
    have hc : ∀ j, j < 5 → W.cell? ⟨g, k * 5 + j, none⟩ = (row5 p)[j]? := by
      intro j hj
      rw [← row5_at ps k p hk j hj, ← ht, List.getElem?_take, if_pos (by omega)]
      simp [World.cell?, hb]
    exact ⟨hc 0 (by omega), hc 1 (by omega), hc 2 (by omega)⟩
theorem app_rows {w : World} {ops : Array Oper} {rest : List Oper} {o : Oper} {a : Act} {Q : Exit → Act → World → Prop} (hgd : o.guard = none) (s x : Operand)
    (ho : o.op = .call { callee := .builtin .append, args := #[s, x], argTypes := #[51, 51] }) (base g1 g2 : Nat)
    (h1 : BoxS w g1 25 ((upF 15).flatMap row5).toArray) (h2 : BoxS w g2 25 ((upO 90).flatMap row5).toArray) (hs : a.eval s = .slice (some ⟨g1, 0, none⟩) 13 13) (hx : a.eval x = .slice (some ⟨g2, 0, none⟩) 74 74)
    (hb1 : base ≤ g1)
    (h : ∀ g cap w', w'.ownsRow base 25 5 (.slice (some ⟨g, 0, none⟩) 87 cap) 87 (insts.flatMap row5) → w.grownBy w' (some g1) → (g1 = g ∨ g = w.heap.size) → wpList Tryd.prog ops Q rest (a.put o.dst (.slice (some ⟨g, 0, none⟩) 87 cap)) w') : wpList Tryd.prog ops Q (o :: rest) a w := by
  obtain ⟨i0, hi0, hz0, hz1, hz2⟩ := info_parts rrow_info
  refine wpList_append_lies (w := w) hgd s x 51 ho base 25 i0 (.agg #[.int .u8 0, .int .i32 0, .string ⟨#[]⟩, .int .i64 0, .int .i64 0]) 5 40 Tryd.underlying51 hi0 hz0 hz1 hz2 rfl (by decide) _ 13 ((upF 15).flatMap row5) hs (owns_of h1 upF_len hb1 (by decide)) ⟨g2, 0, none⟩ 74 74 ((upO 90).flatMap row5) hx ?_ ?_ (flat_one _) (by decide) (by unfold maxLen; omega) (by decide) ?_ w.heap.size rfl ?_
  · rw [flat_len, upO_len]
  · intro j u hj
    have e : (⟨g2, 0, none⟩ : Addr).add j = ⟨g2, j, none⟩ := by
      unfold Addr.add
      split
      · rename_i h0; rw [h0]
      · simp
    rw [e, h2.cell j]
    simpa using hj
  · exact Nat.le_trans hb1 (Nat.le_of_lt h1.lt)
  · intro g cap w' k1 k2 k3 _
    rw [flat_insts] at k1
    refine h g cap w' k1 k2 (k3.imp (fun e => ?_) id)
    simpa [Value.ownBlock] using e
theorem BoxS.kept' {X Y : World} {k r : Nat} {t : TypeId} {cs : Array Value} (h : BoxS X k t cs) (hne : k ≠ r) (hg : X.grownBy Y (some r)) : BoxS Y k t cs := (hg.block k h.lt (fun e => hne (by cases e; rfl))).trans h
theorem below_row {w X Y : World} {r : Nat} (h : Below w.heap.size w X) (hr : w.heap.size ≤ r) (hg : X.grownBy Y (some r)) : Below w.heap.size w Y :=
  ⟨hg.os.trans h.os, hg.tape.trans h.tape, hg.output.trans h.output, Nat.le_trans h.size hg.size, fun k hk => (hg.block k (Nat.lt_of_lt_of_le hk h.size) (fun e => by cases e; omega)).trans (h.block k hk)⟩
set_option maxRecDepth 100000 in
set_option maxHeartbeats 4000000 in
theorem RNamed_any (s : ByteArray) (w : World) :
    Calls Tryd.prog 19 #[.string s] w fun e w' => e = .returned (.tuple #[.agg #[.int .u8 (ndF s.data.toList), .int .i32 (ndA s.data.toList)], .bool (ndO s.data.toList)]) ∧ Below w.heap.size w w' := by
  go_enter Tryd.func19, Tryd.ntmps19
  go_wp2_with (first
    | (go_at_call 28; refine (Functions_at _).mono ?_; rintro e w1 ⟨rfl, t1, b1⟩
       have L1 := Lib.hid (And.intro (by simpa only [World.size_alloc] using t1 : BoxS w1 (w.heap.size + 1) 25 _) (And.intro (BoxS.below (boxS_new w 23 #[.int .u8 0, .int .i32 0]) b1) (blw (bal (b0 w) _) b1))); clear b1 t1)
    | (go_at_call 29; refine (Operations_at _).mono ?_; rintro e w2 ⟨rfl, t2, b2⟩
       have L2 := Lib.hid (And.intro (L1.out.1.below b2) (And.intro (L1.out.2.1.below b2) (And.intro t2 (blw L1.out.2.2 b2)))); clear b2 t2
       have Z1 := Lib.hid L1.out.1.lt)
    | (at_builtin; refine app_rows rfl _ _ rfl (w.heap.size + 1) (w.heap.size + 1) w1.heap.size L2.out.1 L2.out.2.2.1 rfl rfl (Nat.le_refl _) ?_; intro g cap w3 hown hgrow hor
       have L3 := Lib.hid (And.intro hown (And.intro (L2.out.2.1.kept' (by omega) hgrow) (below_row L2.out.2.2.2 (by omega) hgrow))); clear hown hgrow hor
       obtain ⟨r1, r2, r3, r4, r5⟩ := boxf L3.out.2.1))
  go_loop [5] (fun i => ∃ k : Nat, k ≤ 87 ∧ i = .int .i64 k ∧ Hid (∀ j, j < k → ∀ p, insts[j]? = some p → nm p.1 p.2 ≠ s.data.toList)) (fun i => 87 - (intOf i).toNat)
  case atStart => exact ⟨0, Nat.zero_le _, rfl, fun j hj => absurd hj (Nat.not_lt_zero j)⟩
  case round =>
    obtain ⟨k, hk, rfl, H⟩ := hrel
    by_cases hlt : k < 87
    · obtain ⟨p, hp⟩ : ∃ p, insts[k]? = some p := ⟨insts[k]'(by rw [insts_len]; exact hlt), List.getElem?_eq_getElem _⟩
      obtain ⟨c0, c1, c2⟩ := rows_own L3.out.1 hp
      have HP := Lib.hid hp
      clear hp
      by_cases hpn : nm p.1 p.2 = s.data.toList
      · have hq : ((strOf (nm p.1 p.2)).toList == s.toList) = true := by rw [eq_strOf]; simpa using hpn
        have hf := find_of_mem (List.mem_of_getElem? HP.out)
        rw [hpn] at hf
        have HM := Lib.hid (nd_some hf)
        clear hpn hf
        go_wp2
        obtain ⟨m1, m2, m3⟩ := HM.out
        refine bodyPost_ret (v := .tuple #[.agg #[.int .u8 p.1, .int .i32 p.2], .bool true]) (by simp [results, Tryd.results19, go_sem, r1, r2]) rfl ⟨?_, ?_⟩
        · rw [m1, m2, m3]
        · exact bset (bset L3.out.2.2 (Nat.le_refl _) _) (Nat.le_refl _) _
      · have hq : ((strOf (nm p.1 p.2)).toList == s.toList) = false := by rw [eq_strOf]; simpa using hpn
        have HE := Lib.hid hpn
        clear hpn
        go_wp2
        go_round
        case rel => exact ⟨k + 1, by omega, by go_num, fun j hj q hq => by by_cases e : j = k; (· subst e; rw [HP.out] at hq; cases hq; exact HE.out); (· exact H.out j (by omega) q hq)⟩
        case measure => simp [intOf]; omega
    · obtain rfl : k = 87 := by omega
      have HM := Lib.hid (nd_none (find_none (l := s.data.toList) (fun p hp => by obtain ⟨j, hj, hjp⟩ := List.mem_iff_getElem.1 hp; exact H.out j (by rw [← insts_len]; exact hj) p (by rw [List.getElem?_eq_getElem hj, hjp]))))
      go_wp2
      obtain ⟨m1, m2, m3⟩ := HM.out
      refine bodyPost_ret (v := .tuple #[.agg #[.int .u8 0, .int .i32 0], .bool false]) (by simp [results, Tryd.results19, go_sem, r1, r2]) rfl ⟨?_, ?_⟩
      · rw [m1, m2, m3]
      · exact bset (bset L3.out.2.2 (Nat.le_refl _) _) (Nat.le_refl _) _
end Go.Proofs.YtlockfoidhndeaaDoor
