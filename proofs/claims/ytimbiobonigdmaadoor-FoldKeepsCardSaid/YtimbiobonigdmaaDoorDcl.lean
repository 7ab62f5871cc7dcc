/- The laws' helper: declares. -/
import Derived.Test.YtimbiobonigdmaaDoorSxo
import Derived.Test.YtimbiobonigdmaaDoorFpa
set_option linter.unusedVariables false
set_option linter.unusedSimpArgs false
namespace Go.Proofs.YtimbiobonigdmaaDoor
open Go Go.RowKit L8 L10 L14

theorem decl_yes {l : List Sx} {s : Bs} {j : Nat} (h : j < l.length) (hs : s ∈ (l.getD j sx0).x.ns) : decl (l.map Sx.x) s = true := by
  unfold decl
  rw [List.any_eq_true]
  exact ⟨_, List.mem_map_of_mem (sx_mem h), decide_eq_true hs⟩
theorem decl_no {l : List Sx} {s : Bs} (h : ∀ j, j < l.length → ¬ s ∈ (l.getD j sx0).x.ns) : decl (l.map Sx.x) s = false := by
  unfold decl
  rw [List.any_eq_false]
  intro x hx
  obtain ⟨y, hy, rfl⟩ := List.mem_map.1 hx
  obtain ⟨j, hj, rfl⟩ := List.mem_iff_getElem.1 hy
  have := h j hj
  rw [List.getD_eq_getElem?_getD, List.getElem?_eq_getElem hj] at this
  simpa using this
theorem not_in {ns : List Bs} {s : Bs} (h : ∀ r, r < ns.length → ¬ ns.getD r [] = s) : ¬ s ∈ ns := fun hs => by
  obtain ⟨r, hr, e⟩ := List.mem_iff_getElem.1 hs
  refine h r hr ?_
  rw [List.getD_eq_getElem?_getD, List.getElem?_eq_getElem hr]
  exact e
theorem in_at {ns : List Bs} {r : Nat} (hr : r < ns.length) : ns.getD r [] ∈ ns := by
  rw [List.getD_eq_getElem?_getD, List.getElem?_eq_getElem hr]
  exact List.getElem_mem hr
set_option maxRecDepth 100000 in
set_option maxHeartbeats 8000000 in
theorem declares_any (E : Option Addr) (k d : Nat) (l : List Sx) (hk : l.length = k) (s : Bs) (w : World) (S : SxR w E d l) : Calls Tryd.prog 16 #[.slice E k d, .string (strOf s)] w fun e w' => e = .returned (.bool (decl (l.map Sx.x) s)) ∧ Below w.heap.size w w' := by
  have hkx : k ≤ maxLen := by have := S.le; have := S.mx; omega
  unfold maxLen at hkx
  have HS := Lib.hid (fun (X : World) (b : Below w.heap.size w X) (j : Nat) (h : j < k) => (S.keep b).rd j (by omega))
  have HY := Lib.hid (fun (j : Nat) (h : j < k) (hs : s ∈ (l.getD j sx0).x.ns) => decl_yes (l := l) (by omega) hs)
  have HE := Lib.hid (fun (h : ∀ j, j < k → ¬ s ∈ (l.getD j sx0).x.ns) => decl_no (l := l) (by rw [hk]; exact h))
  clear S hk
  generalize decl (l.map Sx.x) s = g at *
  go_enter Tryd.func16, Tryd.ntmps16
  go_wp2
  go_loopw [11] (fun i wr => ∃ j : Nat, j ≤ k ∧ i = .int .i64 (j : Int) ∧ Hid (Below w.heap.size w wr) ∧ Hid (∀ i, i < j → ¬ s ∈ (l.getD i sx0).x.ns)) (fun i _ => k - (intOf i).toNat)
  case atStart => exact ⟨0, Nat.zero_le _, rfl, Lib.hid (b0 w), Lib.hid fun i hi => absurd hi (by omega)⟩
  case round =>
    obtain ⟨j, hj, rfl, HB, H⟩ := hrel
    have hj0 : (0 : Int) ≤ (j : Int) := by omega
    by_cases hlt : (j : Int) < (k : Int)
    · obtain ⟨ad, rfl, hc, hv⟩ := HS.out wr HB.out j (by omega)
      have HN := Lib.hid (HY.out j (by omega))
      have HK := Lib.hid (show ¬ s ∈ (l.getD j sx0).x.ns → ∀ i, i < j + 1 → ¬ s ∈ (l.getD i sx0).x.ns from fun h i hi => if h2 : i < j then H.out i h2 else by rw [show i = j by omega]; exact h)
      generalize l.getD j sx0 = y at *
      have HR := Lib.hid (show ∀ i v, (sxC y)[i]? = some v → wr.cell? ((ad.add (j * 16)).add i) = some v from fun i v hv => by
        have hi := (List.getElem?_eq_some_iff.1 hv).1
        exact (hc i hi).trans hv)
      have HV := Lib.hid (hv.keep (bal (b0 wr) (.cells (sxC y).toArray 51)))
      have HB2 := Lib.hid (bal HB.out (.cells (sxC y).toArray 51))
      have HBX := Lib.hid (box16 (boxS_new wr 51 (sxC y).toArray))
      have HO := Lib.hid (sx_all hv.one)
      clear hc hv
      dsimp only [sxC] at HV HB2 HBX HO
      go_wp2_with (first
        | (refine wp_load16 rfl (.tmp 13) rfl (ad.add (j * 16)) rfl (sxC y) rfl HR.out ?_; dsimp only [sxC])
        | (refine wp_store16 rfl (.tmp 6) (.tmp 14) rfl rfl _ rfl _ rfl HO.out rfl ?_; clear HR HO; obtain ⟨⟨x0, x1, x2, x3⟩, ⟨x4, x5, x6, x7⟩, ⟨x8, x9, x10, x11⟩, ⟨x12, x13, x14, x15⟩⟩ := HBX.out; clear x0 x1 x2 x3 x4 x6 x7 x8 x9 x10 x11 x12 x13 x14 x15))
      generalize wr.alloc (.cells #[.int .u8 (y.x.k : Int), .int .u8 (y.x.t : Int), .int .i64 y.x.d, y.v3, y.v4, .slice y.N y.x.ns.length y.c, .int .u8 (y.x.e.k : Int), .int .u8 (y.x.e.o : Int), .int .u8 (y.x.e.t : Int), .int .i32 y.x.e.n, .string (strOf y.x.e.s), .slice y.B y.x.e.l.length y.d, y.v12, y.v13, y.v14, y.v15] 51) = V at *
      have HQ := Lib.hid HV.out.ss
      have hnl : y.x.ns.length ≤ maxLen := by have := HQ.out.le; have := HQ.out.mx; omega
      unfold maxLen at hnl
      have HNot := Lib.hid (not_in (ns := y.x.ns) (s := s))
      have HIn := Lib.hid (fun r hr => in_at (ns := y.x.ns) (r := r) hr)
      clear HV HBX x5
      obtain ⟨ns, hns⟩ : ∃ ns, y.x.ns = ns := ⟨_, rfl⟩
      rw [hns] at HQ hnl HNot HIn HN HK
      rw [hns]
      clear hns
      obtain ⟨n, hn⟩ : ∃ n, ns.length = n := ⟨_, rfl⟩
      rw [hn] at hnl HNot HIn ⊢
      have HN2 := Lib.hid hn
      clear hn
      go_loopw [18] (fun i wx => ∃ r : Nat, r ≤ n ∧ i = .int .i64 (r : Int) ∧ wx = V ∧ Hid (∀ q, q < r → ¬ ns.getD q [] = s)) (fun i _ => n - (intOf i).toNat)
      case atStart => exact ⟨0, Nat.zero_le _, rfl, rfl, Lib.hid fun i hi => absurd hi (by omega)⟩
      case round =>
        obtain ⟨r, hr, rfl, rfl, G⟩ := hrel
        have hr0 : (0 : Int) ≤ (r : Int) := by omega
        by_cases hlr : (r : Int) < (n : Int)
        · obtain ⟨a2, hy, hc⟩ := HQ.out.rd r (by have := HN2.out; omega)
          have HI := Lib.hid (HIn.out r (by omega))
          have HG := Lib.hid (show ¬ ns.getD r [] = s → ∀ q, q < r + 1 → ¬ ns.getD q [] = s from fun h q hq => if h2 : q < r then G.out q h2 else by rw [show q = r by omega]; exact h)
          have he := eqS (ns.getD r []) s
          obtain ⟨t, ht⟩ : ∃ t, ns.getD r [] = t := ⟨_, rfl⟩
          rw [ht] at hc HI HG he
          clear ht
          by_cases hts : t = s
          · subst hts
            obtain rfl : g = true := HN.out HI.out
            rw [decide_eq_true rfl] at he
            go_wp2
            go_ret
            exact ⟨rfl, HB2.out⟩
          · rw [decide_eq_false hts] at he
            have HG2 := Lib.hid (HG.out hts)
            clear hts HG HI
            go_wp2
            go_roundw
            case rel => exact ⟨r + 1, by omega, by go_num, trivial, HG2⟩
            case measure => simp [intOf]; omega
        · obtain rfl : r = n := by omega
          have HK2 := Lib.hid (HK.out (HNot.out fun q hq => G.out q hq))
          clear HK HNot HIn G
          go_wp2
          go_roundw
          case rel => exact ⟨j + 1, by omega, by go_num, HB2, HK2⟩
          case measure => simp [intOf]; omega
    · obtain rfl : j = k := by omega
      obtain rfl : g = false := HE.out (fun i h1 => H.out i h1)
      go_wp2
      go_ret
      exact ⟨rfl, HB.out⟩
end Go.Proofs.YtimbiobonigdmaaDoor
