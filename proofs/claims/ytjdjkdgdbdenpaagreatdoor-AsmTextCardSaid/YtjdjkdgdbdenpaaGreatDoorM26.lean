/- Lengths are settled: the walk. -/
import Derived.Deep.RegionLaw
import Derived.Deep.CutRange
import Derived.Test.YtjdjkdgdbdenpaaGreatDoorM25
set_option linter.unusedVariables false
set_option linter.unusedSimpArgs false
namespace Go.Proofs.YtjdjkdgdbdenpaaGreatDoor
open Go Go.RowKit

/-- A program whose lengths are settled. -/
def GivesS (w : World) (ls : List Ln) (m c : Nat) (A : Option Addr) (e : Ending) (w' : World) : Prop :=
  ∃ As cs g ga An cn Ai ci, e = .returned (.tuple #[.pointer (some ⟨g, 0, none⟩), .int .i64 0]) ∧ St w w' ls m c A As cs g ga m An cn Ai ci (atE (lens ls)) (lens ls) (insL ls)
theorem s1_new {w w1 : World} {ls : List Ln} {m c cs : Nat} {A As : Option Addr} (hs : OwnP w1 w.heap.size As m cs (spL ls)) (hb : Below w.heap.size w w1) (hm : m ≤ 1000) :
    S1 w ((w1.alloc (.cells (nmz (m + 1)) 3)).alloc (.cells #[.slice A m c, .slice As m cs, .slice (some ⟨w1.heap.size, 0, none⟩) (m + 1) (m + 1), .slice none 0 0, .slice none 0 0] 56)) ls m c A As cs (w1.heap.size + 1) w1.heap.size (w1.heap.size + 1 + 1) 0 none 0 0 none 0 := by
  have e1 : (w1.alloc (.cells (nmz (m + 1)) 3)).heap.size = w1.heap.size + 1 := by show (w1.heap.push _).size = _; simp
  have k := bal (b0 (w1.alloc (.cells (nmz (m + 1)) 3))) (.cells #[.slice A m c, .slice As m cs, .slice (some ⟨w1.heap.size, 0, none⟩) (m + 1) (m + 1), .slice none 0 0, .slice none 0 0] 56)
  have k1 := bal (b0 w1) (.cells (nmz (m + 1)) 3)
  rw [← e1]
  refine ⟨bal (bal hb _) _, boxS_new _ _ _, own_keepB (own_keepB hs k1) k, own_keepB (ownN_new hb.size (by omega)) k, ?_, ?_, by have := hb.size; omega, by omega, by omega, by have := hb.size; omega, by show _ ≤ ((World.alloc _ _).heap.push _).size; simp⟩
  · rw [List.take_zero]; exact ownN_nil _ _
  · rw [List.take_zero]; exact World.ownsRow_nil _ _ _ 2
theorem box_ne {X : World} {g g' : Nat} {t t' : TypeId} {cs cs' : Array Value} (h : BoxS X g t cs) (h' : BoxS X g' t' cs') (hne : t ≠ t') : g ≠ g' := by
  rintro rfl
  unfold BoxS at h h'
  rw [h] at h'
  injection h' with h'
  injection h' with _ h2
  exact hne h2
theorem xbox_ins {w X : World} {ls : List Ln} {m c : Nat} {A As : Option Addr} {cs g ga B kn : Nat} {An : Option Addr} {cn ki : Nat} {Ai : Option Addr} {ci : Nat} (h : S1 w X ls m c A As cs g ga B kn An cn ki Ai ci) {nx : Nat} {xs : Array Value} (hx : BoxS X nx 60 xs) (o : Obj) {w3 : World} (g3 : (X.alloc o).grownBy w3 (Value.slice Ai ki ci).ownBlock) (j : Nat) (v : Value) :
    BoxS (w3.setCell ⟨g, j, none⟩ v) nx 60 xs := by
  have h1 := h.keep (bal (b0 X) o)
  have hx1 := hx.below (bal (b0 X) o)
  refine boxS_other (B := nx) (B' := g) ?_ (box_ne hx1 h1.fp (by decide)) v
  exact (g3.block nx hx1.lt (box_apart h1.fi hx1 (by decide))).trans hx1
theorem box5c {W : World} {k : Nat} {t : TypeId} {a b c d e : Value} (h : BoxS W k t #[a, b, c, d, e]) :
    (W.cell? ⟨k, 0, none⟩ = some a ∧ W.cell? ⟨k, 1, none⟩ = some b ∧ W.cell? ⟨k, 2, none⟩ = some c ∧ W.cell? ⟨k, 3, none⟩ = some d ∧ W.cell? ⟨k, 4, none⟩ = some e) ∧ k < W.heap.size :=
  ⟨⟨(BoxS.cell h 0).trans rfl, (BoxS.cell h 1).trans rfl, (BoxS.cell h 2).trans rfl, (BoxS.cell h 3).trans rfl, (BoxS.cell h 4).trans rfl⟩, BoxS.lt h⟩
set_option maxRecDepth 100000 in
set_option maxHeartbeats 16000000 in
theorem settled_ok {A : Option Addr} {c m : Nat} {ls : List Ln} {w : World} (R : RL w A c ls) (hA : ∀ ad, A = some ad → 0 < ls.length → ad.block < w.heap.size) (hm : ls.length = m) (h1 : m ≤ 1000) (hg : Vars w) (hc : chk ls = 0) : Calls Tryz.prog 23 #[.slice A m c] w (GivesS w ls m c A) := by
  have HR := Lib.hid R
  have HM := Lib.hid hm
  have F := Lib.hid (fit_of hc R.ok (by omega))
  have HV := Lib.hid (chk_ok hc).1
  have CP := Lib.hid ((spansOf_any R hm (by omega) hg).mono (R' := fun e w' => ∃ A' c', e = .returned (.tuple #[.slice A' m c', .int .i64 0]) ∧ OwnP w' w.heap.size A' m c' (spL ls) ∧ Below w.heap.size w w') (fun e w' h => by
    unfold GivesP at h
    rw [hc, show spR ls = spL ls from if_pos hc, spL_len, hm] at h
    exact h))
  have CI := Lib.hid (fun (k : Nat) (X : World) => instrOf_any (ls.getD k l0) X)
  have CL := Lib.hid (fun (k : Nat) (hk : k < m) (X : World) => C4.Len_any (ls.getD k l0).fn (v := (ls.getD k l0).arg) (F.out.wd k (by omega)) X)
  have HK := Lib.hid hA
  unfold GivesS
  clear R hA hm hg hc
  have hmk := run_mkN (m + 1) (by omega)
  have e1 : ((m + 1 : Nat) : Int) = (m : Int) + 1 := by omega
  have s1 : IntKind.i64.wrap ((m : Int) + 1) = (m : Int) + 1 := by rw [IntWalk.i64_in _ (by omega)]
  rw [e1] at hmk
  go_enter Tryz.func23, Tryz.ntmps23
  go_wp2_with (go_at_call 26; refine CP.out.mono ?_; rintro e w1 ⟨As, cs, rfl, o1, b1⟩; have P1 := Lib.hid (s1_new (A := A) (c := c) o1 b1 h1); clear o1 b1)
  generalize hga : w1.heap.size = ga at *
  generalize (w1.alloc (.cells (nmz (m + 1)) 3)).alloc (.cells #[.slice A m c, .slice As m cs, .slice (some ⟨ga, 0, none⟩) (m + 1) (m + 1), .slice none 0 0, .slice none 0 0] 56) = W1 at *
  generalize ga + 1 = g at *
  clear hmk s1 e1
  go_loopw [28] (fun i wr => ∃ k : Nat, k ≤ m ∧ i = .int .i64 k ∧ Hid (∃ An cn Ai ci, S1 w wr ls m c A As cs g ga (g + 1) k An cn k Ai ci)) (fun i _ => m - (intOf i).toNat)
  case atStart => exact ⟨0, Nat.zero_le _, rfl, Lib.hid ⟨_, _, _, _, P1.out⟩⟩
  case round =>
    obtain ⟨k, hk, rfl, H⟩ := hrel
    by_cases hlt : (k : Int) < (m : Int)
    · obtain ⟨An, cn, Ai, ci, h1⟩ := H.out
      obtain ⟨ad, rfl, c0, c1, c2, c3, c4⟩ := (HR.out.keep h1.fb).rd k (by have := HM.out; omega)
      have hk0 : (0 : Int) ≤ (k : Int) := by omega
      have hk1 : k ≤ 1000 := by omega
      have C1 := Lib.hid (CI.out k)
      have C2 := Lib.hid (CL.out k (by omega))
      have HS := Lib.hid h1
      have HL := Lib.hid (show k < ls.length by have := HM.out; omega)
      have HI := Lib.hid (fun (X : World) (An : Option Addr) (cn : Nat) (Ai : Option Addr) (ci : Nat) (h : S1 w X ls m c (some ad) As cs g ga (g + 1) k An cn k Ai ci) (nx : Nat) (xs : Array Value) (hx : BoxS X nx 60 xs) (o : Obj) (w3 : World) (A3 : Option Addr) (c3 : Nat) (o3 : C4.OwnI w3 (g + 1) A3 (k + 1) c3 ((ins0 ls).take k ++ [((ls.getD k l0).fn, (ls.getD k l0).arg)])) (g3 : (X.alloc o).grownBy w3 (Value.slice Ai k ci).ownBlock) => And.intro (h.ins o HL.out o3 g3) (xbox_ins h hx o g3 4 (.slice A3 (k + 1) c3)))
      have HN := Lib.hid (fun (X : World) (An : Option Addr) (cn : Nat) (Ai : Option Addr) (ci : Nat) (h : S1 w X ls m c (some ad) As cs g ga (g + 1) k An cn (k + 1) Ai ci) (o : Obj) (w3 : World) (A3 : Option Addr) (c3 : Nat) (o3 : OwnN w3 (g + 1) A3 (k + 1) c3 ((len0 ls).take k ++ [C4.ln (ls.getD k l0).fn (ls.getD k l0).arg])) (g3 : (X.alloc o).grownBy w3 (Value.slice An k cn).ownBlock) => h.num o HL.out o3 g3)
      clear h1 H
      generalize ls.getD k l0 = x at *
      obtain ⟨lab, fn, arg, tgt, fr⟩ := x
      dsimp only at *
      generalize hL : C4.ln fn arg = L at *
      go_upto_region 8 with fail
      have XB := Lib.hid (And.intro (boxS_new wr 60 #[.string (strOf lab), .int .u8 (fn : Int), .int .i32 arg, .string (strOf tgt), .string (strOf fr)]) (HS.out.keep (bal (b0 wr) (.cells #[.string (strOf lab), .int .u8 (fn : Int), .int .i32 arg, .string (strOf tgt), .string (strOf fr)] 60))))
      generalize wr.heap.size = nx at *
      generalize wr.alloc (.cells #[.string (strOf lab), .int .u8 (fn : Int), .int .i32 arg, .string (strOf tgt), .string (strOf fr)] 60) = W at *
      clear c0 c1 c2 c3 c4
      go_cut [28] from 28 to 55 (fun i wx => i = .int .i64 (k : Int) ∧ Hid (∃ Ai2 ci2, S1 w wx ls m c (some ad) As cs g ga (g + 1) k An cn (k + 1) Ai2 ci2 ∧ BoxS wx nx 60 #[.string (strOf lab), .int .u8 (fn : Int), .int .i32 arg, .string (strOf tgt), .string (strOf fr)]))
      case first =>
        have b1 := bdrew1 (b0 W)
        obtain ⟨⟨p0, p1, p2, p3, p4⟩, pl⟩ := pbox_cells (XB.out.2.keep b1).fp
        obtain ⟨⟨x0, x1, x2, x3, x4⟩, xl⟩ := box5c (XB.out.1.below b1)
        have S2 := Lib.hid (And.intro (XB.out.2.keep b1) (XB.out.1.below b1))
        clear p0 p1 p2 p3 b1
        go_region_law (first
          | (go_simp; go_at_call 40; refine (C1.out _).mono ?_; rintro e w1 ⟨rfl, b1⟩; have S3 := Lib.hid (And.intro (S2.out.1.keep b1) (S2.out.2.below b1)); have p4' := (pbox_cells S3.out.1.fp).1.2.2.2.2; have p4b := (pbox_cells (S3.out.1.keep (bal (b0 w1) (.cells #[.int .u8 (fn : Int), .int .i32 arg] 70))).fp).1.2.2.2.2; clear b1)
          | (refine step_ins rfl (.tmp 36) (.tmp 39) rfl (g + 1) k ci 1 fn w1.heap.size arg Ai ((ins0 ls).take k) rfl rfl (own_keepB S3.out.1.fi (bal (b0 w1) _)) cell_new01 (by omega) (S3.out.1.keep (bal (b0 w1) _)).fx ?_; intro A3 c3 w3 o3 g3; have S4 := Lib.hid (HI.out _ _ _ _ _ S3.out.1 _ _ S3.out.2 _ _ _ _ o3 g3); have p4c := (pbox_cells S4.out.1.1).1.2.2.2.2; have f4 := BoxS.frozen S4.out.1.1 4; clear o3 g3))
        all_goals
          go_wp2_with fail
          go_meet
          exact ⟨rfl, Lib.hid ⟨_, _, S4.out.1.2, S4.out.2⟩⟩
      case rest =>
        obtain ⟨rfl, hc⟩ := hcut
        obtain ⟨Ai2, ci2, z1, z2⟩ := hc.out
        have XC := Lib.hid (And.intro z1 z2)
        clear hc z1 z2 XB HS
        have b1 := bdrew1 (b0 wc)
        obtain ⟨⟨p0, p1, p2, p3, p4⟩, pl⟩ := pbox_cells (XC.out.1.keep b1).fp
        obtain ⟨⟨x0, x1, x2, x3, x4⟩, xl⟩ := box5c (XC.out.2.below b1)
        have S2 := Lib.hid (XC.out.1.keep b1)
        clear p0 p1 p2 p4 b1
        go_upto_region 9 with fail
        go_region_law (first
          | (refine step_num rfl (.tmp 47) (.tmp 51) rfl (g + 1) k cn 1 L w2.heap.size An ((len0 ls).take k) rfl rfl (own_keepB S4.out.fn (bal (b0 w2) _)) (cell_new0 rfl) (by omega) (S4.out.keep (bal (b0 w2) _)).fx ?_; intro A3 c3 w3 o3 g3; have S5 := Lib.hid (HN.out _ _ _ _ _ S4.out _ _ _ _ o3 g3); have p3c := (pbox_cells S5.out.1).1.2.2.2.1; have f3 := BoxS.frozen S5.out.1 3; clear o3 g3)
          | (go_simp; go_at_call 40; refine (C1.out _).mono ?_; rintro e w1 ⟨rfl, b1⟩; have S3 := Lib.hid (S2.out.keep b1); have p3' := (pbox_cells S3.out.fp).1.2.2.2.1; clear b1)
          | (go_simp; go_at_call 41; refine (C2.out _).mono ?_; rintro e w2 ⟨rfl, g2⟩; have S4 := Lib.hid (S3.out.keep (C4.g_below0 g2)); have p3'' := (pbox_cells S4.out.fp).1.2.2.2.1; have p3d := (pbox_cells (S4.out.keep (bal (b0 w2) (.cells #[.int .i64 (L : Int)] 3))).fp).1.2.2.2.1; clear g2))
        all_goals
          go_wp2_with fail
          go_roundw
          case rel => exact ⟨k + 1, by omega, by go_num, Lib.hid ⟨_, _, _, _, S5.out.2⟩⟩
          case measure => simp [intOf]; omega
    · obtain rfl : k = m := by omega
      obtain ⟨An, cn, Ai, ci, hs⟩ := H.out
      have H2 := Lib.hid (And.intro (hs.st HM.out) (And.intro (low_len0 F.out HV.out) (And.intro (insOk_0 HR.out.ok) (rep_zero k))))
      clear hs H P1
      generalize wr = W2 at *
      generalize List.replicate (k + 1) 0 = ats0 at *
      generalize len0 ls = ns0 at *
      generalize ins0 ls = iz0 at *
      have HF := Lib.hid (fun (ns : List Nat) (h : Low ls ns) (he : stepN ls ns = ns) => And.intro (step_fix F.out h he) (step_ins_fix F.out h he))
      have HG := Lib.hid (fun (ns : List Nat) (h : Low ls ns) => And.intro (low_step F.out h) (insOk_step F.out h))
      have HQ := Lib.hid (fun (ns : List Nat) (h : Low ls ns) => And.intro (Nat.le_trans h.sum_le (by have := HM.out; omega) : ns.sum ≤ 8 * k) (fun (he : stepN ls ns ≠ ns) => Le.sum_lt (le_step ls h.len) he))
      have CE := Lib.hid (fun (X : World) (ats ns : List Nat) (iz : List C4.II) (h : St w X ls k c A As cs g ga k An cn Ai ci ats ns iz) (h8 : ∀ j, ns.getD j 0 ≤ 8) (h0 : ats.getD 0 0 = 0) => h.locate h1 h8 h0)
      have CG := Lib.hid (fun (X : World) (ns : List Nat) (iz : List C4.II) (h : St w X ls k c A As cs g ga k An cn Ai ci (atE ns) ns iz) (L : Low ls ns) (hk : InsOk ls ns iz) => h.lengthen HR.out HK.out F.out HV.out HM.out h1 L hk)
      clear CP CI CL
      go_wp2_with fail
      go_loopw [9] (fun b wr => ∃ (gr : Bool), b = .bool gr ∧ Hid (∃ ats ns iz, St w wr ls k c A As cs g ga k An cn Ai ci ats ns iz ∧ Low ls ns ∧ InsOk ls ns iz ∧ ats.getD 0 0 = 0 ∧ (gr = false → ats = atE (lens ls) ∧ ns = lens ls ∧ iz = insL ls))) (fun b wr => 2 * (8 * k + 1 - meas (.slice An k cn) wr) + (match b with | .bool true => 1 | _ => 0))
      case atStart => exact ⟨true, rfl, Lib.hid ⟨ats0, ns0, iz0, H2.out.1, H2.out.2.1, H2.out.2.2.1, H2.out.2.2.2, fun e => (by cases e)⟩⟩
      case round =>
        obtain ⟨gr, rfl, H⟩ := hrel
        obtain ⟨ats, ns, iz, t1, t2, t3, t4, t5⟩ := H.out
        clear H H2
        cases gr with
        | true =>
          have C1 := Lib.hid (CE.out wr ats ns iz t1 t2.le8 t4)
          have C2 := Lib.hid (fun (X : World) (h : St w X ls k c A As cs g ga k An cn Ai ci (atE ns) ns iz) => CG.out X ns iz h t2 t3)
          have HS := Lib.hid (And.intro t1 (And.intro t2 t3))
          clear t1 t2 t3 t4 t5
          obtain ⟨gr2, hgr⟩ : ∃ b, decide (stepN ls ns ≠ ns) = b := ⟨_, rfl⟩
          rw [hgr] at C2
          have HGR := Lib.hid hgr
          clear hgr
          go_wp2_with (first
            | (go_at_call 43; refine C1.out.mono ?_; rintro e w5 ⟨rfl, s5⟩; have S5 := Lib.hid s5; clear s5)
            | (go_at_call 42; refine (C2.out _ S5.out).mono ?_; rintro e w6 ⟨rfl, s6⟩; have S6 := Lib.hid s6; clear s6))
          go_roundw
          case rel =>
            have hz : (atE ns).getD 0 0 = 0 := by rw [atE_at ns (Nat.zero_le _)]; rfl
            refine ⟨gr2, rfl, Lib.hid ⟨atE ns, stepN ls ns, insN ls ns, S6.out, (HG.out ns HS.out.2.1).1, (HG.out ns HS.out.2.1).2, hz, fun e => ?_⟩⟩
            have he := HGR.out
            rw [e] at he
            have he2 : stepN ls ns = ns := Classical.byContradiction (of_decide_eq_false he)
            obtain ⟨q1, q2⟩ := HF.out ns HS.out.2.1 he2
            exact ⟨by rw [← q1], by rw [he2, ← q1], q2⟩
          case measure =>
            have e1 := meas_rn S6.out.fn.rn S6.out.fn.len
            have e2 := meas_rn HS.out.1.fn.rn HS.out.1.fn.len
            have e3 := (HQ.out _ (HG.out ns HS.out.2.1).1).1
            have e4 := (HQ.out ns HS.out.2.1).2
            rw [e1, e2]
            have he := HGR.out
            cases gr2 with
            | true =>
              have := e4 (of_decide_eq_true he)
              show 2 * _ + 1 < 2 * _ + 1
              omega
            | false =>
              have he2 : stepN ls ns = ns := Classical.byContradiction (of_decide_eq_false he)
              rw [he2]
              show 2 * _ + 0 < 2 * _ + 1
              omega
        | false =>
          obtain ⟨e1, e2, e3⟩ := t5 rfl
          subst e1 e2 e3
          have HS := Lib.hid t1
          clear t1 t2 t3 t4 t5
          go_wp2
          go_ret2
          exact ⟨As, cs, g, ga, An, cn, Ai, ci, rfl, HS.out⟩
set_option maxRecDepth 100000 in
theorem settled_no {A : Option Addr} {c m : Nat} {ls : List Ln} {w : World} (R : RL w A c ls) (hm : ls.length = m) (h1 : m ≤ 1000) (hg : Vars w) (hc : ¬ chk ls = 0) : Calls Tryz.prog 23 #[.slice A m c] w fun e w' => e = .returned (.tuple #[.pointer none, .int .i64 (chk ls)]) ∧ Below w.heap.size w w' := by
  have CP := Lib.hid ((spansOf_any R hm (by omega) hg).mono (R' := fun e w' => ∃ A' c' n, e = .returned (.tuple #[.slice A' n c', .int .i64 (chk ls)]) ∧ Below w.heap.size w w') (fun e w' h => by
    unfold GivesP at h
    obtain ⟨A', c', h1, _, h2⟩ := h
    exact ⟨A', c', _, h1, h2⟩))
  clear R
  obtain ⟨er, her⟩ : ∃ er, chk ls = er := ⟨_, rfl⟩
  rw [her] at hc CP ⊢
  have hq : (er != 0) = true := by simp; omega
  clear hc her
  go_enter Tryz.func23, Tryz.ntmps23
  go_wp2_with (go_at_call 26; refine CP.out.mono ?_; rintro e w1 ⟨As, cs, n1, rfl, b1⟩; have P1 := Lib.hid b1; clear b1)
  go_ret2
  exact ⟨rfl, P1.out⟩
end Go.Proofs.YtjdjkdgdbdenpaaGreatDoor
