import Derived.Test.YtodpkdajbnceoaaGreatDoorPart20
set_option linter.all false
set_option maxHeartbeats 4000000
set_option maxRecDepth 100000
namespace Go.Proofs.YtodpkdajbnceoaaGreatDoor
open Go.RowKit
section
variable {H0 : Nat} {w : World} {wk hb : Nat} {V : _root_.Fin 6 → Value} {avs : List Value} {most : Int} {lv kv : Value} {fx : Fix} {s : Wk}
theorem step_not (h : WkIn H0 w wk hb V avs most lv kv fx s) (hch : Chain s) (hc : s.h.cost ≤ 1000000000000) (t : Nat) (g : Gl) (hto : s.todo = t) (ht : s.ls[t]? = some g) (ho : g.only = false) (hls : s.ls.length ≤ 900000000) (hbl : s.bk.length ≤ 900000000) (nm0 : ByteArray) (ar : List Ex) (ps : List Bd) (hgb : g.b = .mk 126 nm0 ar ps) :
    Calls Tryz.prog 89 #[.pointer (some ⟨wk, 0, none⟩)] w fun e w' => StepZ H0 w wk hb most fx s e w' := by
  have hcut := hch.at hto ht
  have HC4 : Hid (Chain { s with h := { s.h with cost := s.h.cost + 1 }, todo := g.rest }) := (hch.heap _).todoS ((hch.ls g (List.mem_of_getElem? ht)).mono hcut)
  have HCR : Hid (cutOf s.ls g.rest g.cut) := hch.ls g (List.mem_of_getElem? ht)
  clear hch
  have hc0 := h.S.c0
  obtain ⟨c0, c1, c2, c3, c4, cf⟩ := h.cs
  have d6 : w.cell? ⟨hb, 6, none⟩ = some (.int .i64 s.h.cost) := by rw [h.S.H.tab.H.c 6]; rfl
  have e6 := h.S.H.tab.H.fz 6
  have hhb := h.S.H.tab.H.lt_size
  have hlt := h.lt
  obtain ⟨q1, q2⟩ := h.S.count (s.h.cost + 1) (by omega)
  obtain ⟨h1, b1⟩ := h.heaped q1 q2 (List.prefix_refl _)
  obtain ⟨w1, hw1⟩ : ∃ w1, w1 = w.setCell ⟨hb, 6, none⟩ (.int .i64 (s.h.cost + 1)) := ⟨_, rfl⟩
  rw [← hw1] at h1 b1
  have HH := hide h1
  have HB1 := hide b1
  have htl : t < s.ls.length := (List.getElem?_eq_some_iff.1 ht).1
  have HT := hide ht
  have HO := hide ho
  clear h h1 b1 q1 q2 cf ht ho
  go_enter Tryz.func89, Tryz.ntmps89
  go_upto_region 2 with fail
  rw [← hw1]
  clear hw1 c0 c1 c2 c3 c4 d6 e6 hhb hlt
  obtain ⟨c0, c1, c2, c3, c4, cf⟩ := HH.out.cs
  have hlt := HH.out.lt
  obtain ⟨lg, lcap, k, nm, a0, a1, a2, p0, p1, p2, rfl, hlg, hcs, g0, g1, g2, g3, g4, g5, g6, g7⟩ := HH.out.listAt HT.out
  have hrow := (HH.out.gl g (List.mem_of_getElem? HT.out)).row.own
  obtain ⟨vo, vc, hvv⟩ := row_form hrow
  rw [hvv] at g5
  rw [HO.out] at g4
  have c3' : w1.cell? ⟨wk, 3, none⟩ = some (.int .i64 (t : Nat)) := by rw [c3, ← hto]
  have c3'' : w1.drew.cell? ⟨wk, 3, none⟩ = some (.int .i64 (t : Nat)) := c3'
  have f3 := cf 3
  have f4 := cf 4
  clear cf c3 hrow
  go_wp2_with fail
  go_region
  obtain ⟨W2, hW2⟩ : ∃ W2, W2 = (w1.alloc (.cells #[.int .u8 k, .string nm, .slice a0 a1 a2, .slice p0 p1 p2, .bool false, .slice vo g.vs.length vc, .int .i64 g.cut, .int .i64 g.rest] 178)).drew := ⟨_, rfl⟩
  have hB2 : Below w1.heap.size w1 W2 := by rw [hW2]; exact ((Below.refl _ _).alloc (Nat.le_refl _) _).drew
  have hbx : W2.heap[w1.heap.size]? = some (.cells #[.int .u8 k, .string nm, .slice a0 a1 a2, .slice p0 p1 p2, .bool false, .slice vo g.vs.length vc, .int .i64 g.cut, .int .i64 g.rest] 178 (0, 0)) := by rw [hW2]; exact heap_alloc_new w1 _
  rw [← hW2]
  have h2 := HH.out.below hB2
  obtain ⟨h3, b3⟩ := h2.todoS g.rest
  obtain ⟨W3, hW3⟩ : ∃ W3, W3 = W2.setCell ⟨wk, 3, none⟩ (.int .i64 g.rest) := ⟨_, rfl⟩
  rw [← hW3] at h3 b3
  have hnew : w1.heap.size ≠ wk := fun e => by omega
  have hbx3 : W3.heap[w1.heap.size]? = some (.cells #[.int .u8 k, .string nm, .slice a0 a1 a2, .slice p0 p1 p2, .bool false, .slice vo g.vs.length vc, .int .i64 g.cut, .int .i64 g.rest] 178 (0, 0)) := by rw [hW3, Below.heap_setCell _ _ _ _ hnew]; exact hbx
  have x7 : W2.cell? ⟨w1.heap.size, 7, none⟩ = some (.int .i64 g.rest) := by rw [cell_of_block hbx]; rfl
  have m3 := h2.cs.2.2.2.1
  have mf3 := h2.cs.2.2.2.2.2 3
  have hlt2 := h2.lt
  have hs2 : w1.heap.size < W2.heap.size := (Array.getElem?_eq_some_iff.1 hbx).1
  have z0 : W3.cell? ⟨w1.heap.size, 0, none⟩ = some (.int .u8 k) := by rw [cell_of_block hbx3]; rfl
  have z1 : W3.cell? ⟨w1.heap.size, 1, none⟩ = some (.string nm) := by rw [cell_of_block hbx3]; rfl
  have z2 : W3.cell? ⟨w1.heap.size, 2, none⟩ = some (.slice a0 a1 a2) := by rw [cell_of_block hbx3]; rfl
  have z3 : W3.cell? ⟨w1.heap.size, 3, none⟩ = some (.slice p0 p1 p2) := by rw [cell_of_block hbx3]; rfl
  have z4 : W3.cell? ⟨w1.heap.size, 4, none⟩ = some (.bool false) := by rw [cell_of_block hbx3]; rfl
  have hs3 : w1.heap.size < W3.heap.size := (Array.getElem?_eq_some_iff.1 hbx3).1
  obtain ⟨W4, hW4⟩ : ∃ W4, W4 = W3.alloc (.cells #[.int .u8 k, .string nm, .slice a0 a1 a2, .slice p0 p1 p2] 47) := ⟨_, rfl⟩
  have hB4 : Below W3.heap.size W3 W4 := by rw [hW4]; exact (Below.refl _ _).alloc (Nat.le_refl _) _
  have hbb : W4.heap[W3.heap.size]? = some (.cells #[.int .u8 k, .string nm, .slice a0 a1 a2, .slice p0 p1 p2] 47 (0, 0)) := by rw [hW4]; exact heap_alloc_new _ _
  have hbx4 := (hB4.block w1.heap.size hs3).trans hbx3
  have h4 := h3.below hB4
  obtain ⟨ko, kc, hkv⟩ := row_form h4.bo
  rw [hkv] at h4
  have hcap : s.bk.length ≤ kc ∧ kc ≤ maxLen := by
    rcases h4.bo.2 with ⟨q, q0⟩ | ⟨g, cp, cur, q, _, _, q3, q4, _⟩
    · injection q with _ _ q; exact ⟨by have : s.bk.length = 0 := q0; omega, by rw [q]; unfold maxLen; omega⟩
    · injection q with _ _ q; subst q; exact ⟨q3, q4⟩
  unfold maxLen at hcap
  obtain ⟨r0, r1, r2, r3, r4, rf⟩ := h4.cs
  have r4' : W4.cell? ⟨wk, 4, none⟩ = some (.slice ko s.bk.length kc) := r4
  have rf4 := rf 4
  have rf3 := rf 3
  have hlt4 := h4.lt
  have y0 : W4.cell? ⟨W3.heap.size, 0, none⟩ = some (.int .u8 k) := by rw [cell_of_block hbb]; rfl
  have y1 : W4.cell? ⟨W3.heap.size, 1, none⟩ = some (.string nm) := by rw [cell_of_block hbb]; rfl
  have y2 : W4.cell? ⟨W3.heap.size, 2, none⟩ = some (.slice a0 a1 a2) := by rw [cell_of_block hbb]; rfl
  have y3 : W4.cell? ⟨W3.heap.size, 3, none⟩ = some (.slice p0 p1 p2) := by rw [cell_of_block hbb]; rfl
  have x5 : W4.cell? ⟨w1.heap.size, 5, none⟩ = some (.slice vo g.vs.length vc) := by rw [cell_of_block hbx4]; rfl
  have x6 : W4.cell? ⟨w1.heap.size, 6, none⟩ = some (.int .i64 g.cut) := by rw [cell_of_block hbx4]; rfl
  have hs4 : W3.heap.size < W4.heap.size := (Array.getElem?_eq_some_iff.1 hbb).1
  have HBB : Hid (Below H0 w W4) := HB1.out.trans ((hB2.mono HH.out.size).trans (b3.trans (hB4.mono h3.size)))
  have H4 := hide h4
  have HBB4 := hide hbb
  have HBX4 := hide hbx4
  clear hW2 hB2 hbx h2 h3 b3 hbx3 g0 g1 g2 g3 g4 g5 g6 g7 c0 c1 c2 c3' c3'' c4 f3 f4 hbb hbx4 h4 hB4 rf r4
  go_upto_region 4 with fail
  rw [← hW3]
  clear hW3
  go_upto_region 8 with fail
  rw [← hW4]
  clear hW4
  clear z0 z1 z2 z3 z4 x7 m3 mf3 hlt2
  obtain ⟨hbr, hbo⟩ := (HH.out.gl g (List.mem_of_getElem? HT.out)).body HO.out
  rw [hgb, hcs] at hbr
  rw [hgb] at hbo
  obtain ⟨hk, hpr⟩ : k = 126 ∧ PRep w1 (fun b => b < H0) ps (.slice p0 p1 p2) := by cases hbr with | mk _ _ _ _ _ _ ha hp => exact ⟨rfl, hp⟩
  subst hk
  have hrv := (HH.out.gl g (List.mem_of_getElem? HT.out)).row
  obtain ⟨x0, rfl⟩ : ∃ x0, ps = [x0] := by
    have hl : ps.length = 1 := by
      rcases hbo.2.2.1 with q | q | ⟨q, r⟩ | ⟨q, r⟩ | ⟨q, r⟩ | q
      all_goals first | exact absurd q (by decide) | exact r
    match ps, hl with
    | [x0], _ => exact ⟨_, rfl⟩
  have hpr4 : PRep W4 (fun b => b < H0) [x0] (.slice p0 p1 p2) := hpr.frame (fun b q _ => ⟨(HBB.out.block b q).trans (HB1.out.block b q).symm, q⟩)
  obtain ⟨pg, pc, m0, n0, u00, u01, u02, v00, v01, v02, hq, hpc1, hpc2, hpl, i00, i01, i02, i03, hR0⟩ := part_elem hpr4 (k := 0) (by simp)
  obtain ⟨e1, e2, e3⟩ : p0 = some ⟨pg, 0, none⟩ ∧ p1 = 1 ∧ p2 = pc := by injection hq with e1 e2 e3; exact ⟨e1, e2, e3⟩
  subst e1 e2 e3
  have hpg := hpr4.okg
  simp only [List.length_cons, List.length_nil] at hpc1
  have j00 : W4.cell? ⟨pg, 0, none⟩ = some (.int .u8 m0) := i00
  have j01 : W4.cell? ⟨pg, 1, none⟩ = some (.string n0) := i01
  have j02 : W4.cell? ⟨pg, 2, none⟩ = some (.slice u00 u01 u02) := i02
  have j03 : W4.cell? ⟨pg, 3, none⟩ = some (.slice v00 v01 v02) := i03
  have hkl : ∀ b, (Value.slice ko s.bk.length kc).ownBlock = some b → b < w1.heap.size := fun b e => (HH.out.bo.lt b (by rw [hkv]; exact e)).2
  have HSK : Hid (∀ (W : World) (lv' kv' : Value), KFr wk (.slice (some ⟨lg, 0, none⟩) s.ls.length lcap) lv' (.slice ko s.bk.length kc) kv' W4 W → Below H0 W4 W → W.cell? ⟨W3.heap.size, 3, none⟩ = some (.slice (some ⟨pg, 0, none⟩) 1 p2) ∧ W.cell? ⟨pg, 0, none⟩ = some (.int .u8 m0) ∧ W.cell? ⟨pg, 1, none⟩ = some (.string n0) ∧ W.cell? ⟨pg, 2, none⟩ = some (.slice u00 u01 u02) ∧ W.cell? ⟨pg, 3, none⟩ = some (.slice v00 v01 v02) ∧ W.cell? ⟨w1.heap.size, 5, none⟩ = some (.slice vo g.vs.length vc) ∧ W.cell? ⟨w1.heap.size, 6, none⟩ = some (.int .i64 g.cut)) := fun W lv' kv' hK hB => by
    have b1 := (hK.block w1.heap.size (by omega) hnew (fun e => by have e' : lg = w1.heap.size := Option.some.inj e; omega) (fun e => by have := hkl _ e; omega)).trans HBX4.out
    have b2 := (hK.block W3.heap.size (by omega) (by omega) (fun e => by have e' : lg = W3.heap.size := Option.some.inj e; omega) (fun e => by have := hkl _ e; omega)).trans HBB4.out
    have b3 : ∀ j, W.cell? ⟨pg, j, none⟩ = W4.cell? ⟨pg, j, none⟩ := fun j => by unfold World.cell?; rw [hB.block pg hpg]
    exact ⟨by rw [cell_of_block b2]; rfl, (b3 0).trans j00, (b3 1).trans j01, (b3 2).trans j02, (b3 3).trans j03, by rw [cell_of_block b1]; rfl, by rw [cell_of_block b1]; rfl⟩
  have hS4 := HSK.out W4 _ _ (KFr.refl _ _ _ _) (Below.refl _ _)
  have r3' : W4.cell? ⟨wk, 3, none⟩ = some (.int .i64 g.rest) := r3
  obtain ⟨s4, hs4'⟩ : ∃ s4 : Wk, s4 = { s with h := { s.h with cost := s.h.cost + 1 }, todo := g.rest } := ⟨_, rfl⟩
  have HF4 : Hid (s4.h = { s.h with cost := s.h.cost + 1 } ∧ s4.ls = s.ls ∧ s4.bk = s.bk ∧ s4.todo = g.rest) := by rw [hs4']; exact ⟨rfl, rfl, rfl, rfl⟩
  have HR4 : Hid (Run H0 W4 W4 wk hb V avs most fx (.slice (some ⟨lg, 0, none⟩) s.ls.length lcap) (.slice (some ⟨lg, 0, none⟩) s.ls.length lcap) (.slice ko s.bk.length kc) (.slice ko s.bk.length kc) s4 s4 0 0) := by
    rw [hs4']; exact Run.begin H4.out HC4.out
  have q1 : s4.ls.length ≤ 900000000 := by rw [hs4']; exact hls
  have q2 : s4.bk.length ≤ 900000000 := by rw [hs4']; exact hbl
  have q3 : g.cut ≤ s4.bk.length := by rw [hs4']; exact hcut
  have q4 : Hid (s4.bk.length = s.bk.length) := by rw [hs4']; exact (rfl : s.bk.length = s.bk.length)
  have HMM : Hid (g ∈ s4.ls) := by rw [hs4']; exact (List.mem_of_getElem? HT.out : g ∈ s.ls)
  have HC0 : Hid (cutOf s4.ls g.rest g.cut) := by rw [hs4']; exact HCR.out
  have HVV := hide hvv
  have hwk4 := HR4.out.h.lt
  clear hs4' HC4 HCR hkl r3 hpr hpr4 hq hvv hrv
  have HO5 := hide (come_run HR4.out (by omega) g.rest (HC0.out.mono q3))
  go_upto_region 30 with (go_at_call 132; refine HO5.out.mono ?_; rintro e w5 ⟨rfl, kv5, s5, R5, e5⟩; have HR5 := hide R5; have HE5 := hide e5; have hS5 := HSK.out _ _ _ R5.K R5.B; have hw5 := R5.h.lt; have y5 : w5.cell? ⟨wk, 3, none⟩ = some (.int .i64 g.rest) := (R5.h.cs.2.2.2.1).trans (by rw [R5.todo, HF4.out.2.2.2]); clear R5 e5)
  clear hS4
  have HO6 := hide (push_fail HR5.out (by omega))
  go_upto_region 31 with (go_at_call 58; refine HO6.out.mono ?_; rintro e w6 ⟨rfl, lv6, s6, R6, c6, m6⟩; have HR6 := hide R6; have HC6 := hide c6; have HM6 := hide m6; have hS6 := HSK.out _ _ _ R6.K R6.B; have hw6 := R6.h.lt; clear R6 c6 m6)
  clear hS5
  have HO7 := hide (cutting_run HR6.out (by omega) s.bk.length s5.ls.length (HC6.out _ (Nat.zero_le _)))
  go_upto_region 32 with (go_at_call 133; refine HO7.out.mono ?_; rintro e w7 ⟨rfl, lv7, s7, R7, c7, m7⟩; have HR7 := hide R7; have HC7 := hide c7; have HM7 := hide m7; have hS7 := HSK.out _ _ _ R7.K R7.B; have hw7 := R7.h.lt; clear R7 c7 m7)
  clear hS6
  have HP8 := hide (push_run HR7.out.drew HMM.out (by omega) hR0 hbo.2.2.2.2.1 HVV.out s.bk.length s6.ls.length (HC7.out _ (Nat.le_refl _)))
  go_region_held (fun w' => w'.cell? ⟨W3.heap.size, 3, none⟩ = some (.slice (some ⟨pg, 0, none⟩) 1 p2) ∧ w'.cell? ⟨pg, 0, none⟩ = some (.int .u8 m0) ∧ w'.cell? ⟨pg, 1, none⟩ = some (.string n0) ∧ w'.cell? ⟨pg, 2, none⟩ = some (.slice u00 u01 u02) ∧ w'.cell? ⟨pg, 3, none⟩ = some (.slice v00 v01 v02) ∧ w'.cell? ⟨w1.heap.size, 5, none⟩ = some (.slice vo g.vs.length vc) ∧ w'.cell? ⟨w1.heap.size, 6, none⟩ = some (.int .i64 g.cut)) (first | exact hS7 | exact hS8 | exact hSs _) (first | (go_at_call 58; refine HP8.out.mono ?_; rintro e w8 ⟨rfl, lv8, s8, R8, c8, m8⟩; have HR8 := hide R8; have HC8 := hide c8; have HM8 := hide m8; have hS8 := HSK.out _ _ _ R8.K R8.B; have hw8 := R8.h.lt; have y8 : w8.cell? ⟨wk, 3, none⟩ = some (.int .i64 g.rest) := (R8.h.cs.2.2.2.1).trans (by rw [R8.todo, HF4.out.2.2.2]); have yf8 := R8.h.cs.2.2.2.2.2 3; have hSs : ∀ v, (w8.setCell ⟨wk, 3, none⟩ v).cell? ⟨W3.heap.size, 3, none⟩ = some (.slice (some ⟨pg, 0, none⟩) 1 p2) ∧ (w8.setCell ⟨wk, 3, none⟩ v).cell? ⟨pg, 0, none⟩ = some (.int .u8 m0) ∧ (w8.setCell ⟨wk, 3, none⟩ v).cell? ⟨pg, 1, none⟩ = some (.string n0) ∧ (w8.setCell ⟨wk, 3, none⟩ v).cell? ⟨pg, 2, none⟩ = some (.slice u00 u01 u02) ∧ (w8.setCell ⟨wk, 3, none⟩ v).cell? ⟨pg, 3, none⟩ = some (.slice v00 v01 v02) ∧ (w8.setCell ⟨wk, 3, none⟩ v).cell? ⟨w1.heap.size, 5, none⟩ = some (.slice vo g.vs.length vc) ∧ (w8.setCell ⟨wk, 3, none⟩ v).cell? ⟨w1.heap.size, 6, none⟩ = some (.int .i64 g.cut) := fun v => HSK.out _ _ _ (R8.K.trans (KFr.setW _ 3 _ _ v _)) (R8.B.setCell (p := ⟨wk, 3, none⟩) R8.h.nw _); clear R8 c8 m8))
  all_goals
    have HF : Hid (StepZ H0 w wk hb most fx s (.returned (.bool true)) (w8.setCell ⟨wk, 3, none⟩ (.int .i64 s7.ls.length))) := HR8.out.done _ (HC8.out _ (by rw [q4.out]; exact Nat.le_refl _)) HBB.out HF4.out.1 HF4.out.2.1 HF4.out.2.2.1 (by omega) (by omega)
    clear hSs
    go_wp2_with fail
    go_ret
    exact HF.out
end
section
variable {H0 : Nat} {w : World} {wk hb : Nat} {V : _root_.Fin 6 → Value} {avs : List Value} {most : Int} {lv kv : Value} {fx : Fix} {s : Wk}
theorem step_row (h : WkIn H0 w wk hb V avs most lv kv fx s) (hch : Chain s) (hc : s.h.cost ≤ 1000000000000) (t : Nat) (g : Gl) (hto : s.todo = t) (ht : s.ls[t]? = some g) (ho : g.only = false) (hls : s.ls.length ≤ 900000000) (hbl : s.bk.length ≤ 900000000) (nm0 : ByteArray) (ar : List Ex) (ps : List Bd) (hgb : g.b = .mk 44 nm0 ar ps) :
    Calls Tryz.prog 89 #[.pointer (some ⟨wk, 0, none⟩)] w fun e w' => StepZ H0 w wk hb most fx s e w' := by
  have hcut := hch.at hto ht
  have HC4 : Hid (Chain { s with h := { s.h with cost := s.h.cost + 1 }, todo := g.rest }) := (hch.heap _).todoS ((hch.ls g (List.mem_of_getElem? ht)).mono hcut)
  have HCR : Hid (cutOf s.ls g.rest g.cut) := hch.ls g (List.mem_of_getElem? ht)
  clear hch
  have hc0 := h.S.c0
  obtain ⟨c0, c1, c2, c3, c4, cf⟩ := h.cs
  have d6 : w.cell? ⟨hb, 6, none⟩ = some (.int .i64 s.h.cost) := by rw [h.S.H.tab.H.c 6]; rfl
  have e6 := h.S.H.tab.H.fz 6
  have hhb := h.S.H.tab.H.lt_size
  have hlt := h.lt
  obtain ⟨q1, q2⟩ := h.S.count (s.h.cost + 1) (by omega)
  obtain ⟨h1, b1⟩ := h.heaped q1 q2 (List.prefix_refl _)
  obtain ⟨w1, hw1⟩ : ∃ w1, w1 = w.setCell ⟨hb, 6, none⟩ (.int .i64 (s.h.cost + 1)) := ⟨_, rfl⟩
  rw [← hw1] at h1 b1
  have HH := hide h1
  have HB1 := hide b1
  have htl : t < s.ls.length := (List.getElem?_eq_some_iff.1 ht).1
  have HT := hide ht
  have HO := hide ho
  clear h h1 b1 q1 q2 cf ht ho
  go_enter Tryz.func89, Tryz.ntmps89
  go_upto_region 2 with fail
  rw [← hw1]
  clear hw1 c0 c1 c2 c3 c4 d6 e6 hhb hlt
  obtain ⟨c0, c1, c2, c3, c4, cf⟩ := HH.out.cs
  have hlt := HH.out.lt
  obtain ⟨lg, lcap, k, nm, a0, a1, a2, p0, p1, p2, rfl, hlg, hcs, g0, g1, g2, g3, g4, g5, g6, g7⟩ := HH.out.listAt HT.out
  have hrow := (HH.out.gl g (List.mem_of_getElem? HT.out)).row.own
  obtain ⟨vo, vc, hvv⟩ := row_form hrow
  rw [hvv] at g5
  rw [HO.out] at g4
  have c3' : w1.cell? ⟨wk, 3, none⟩ = some (.int .i64 (t : Nat)) := by rw [c3, ← hto]
  have c3'' : w1.drew.cell? ⟨wk, 3, none⟩ = some (.int .i64 (t : Nat)) := c3'
  have f3 := cf 3
  have f4 := cf 4
  clear cf c3 hrow
  go_wp2_with fail
  go_region
  obtain ⟨W2, hW2⟩ : ∃ W2, W2 = (w1.alloc (.cells #[.int .u8 k, .string nm, .slice a0 a1 a2, .slice p0 p1 p2, .bool false, .slice vo g.vs.length vc, .int .i64 g.cut, .int .i64 g.rest] 178)).drew := ⟨_, rfl⟩
  have hB2 : Below w1.heap.size w1 W2 := by rw [hW2]; exact ((Below.refl _ _).alloc (Nat.le_refl _) _).drew
  have hbx : W2.heap[w1.heap.size]? = some (.cells #[.int .u8 k, .string nm, .slice a0 a1 a2, .slice p0 p1 p2, .bool false, .slice vo g.vs.length vc, .int .i64 g.cut, .int .i64 g.rest] 178 (0, 0)) := by rw [hW2]; exact heap_alloc_new w1 _
  rw [← hW2]
  have h2 := HH.out.below hB2
  obtain ⟨h3, b3⟩ := h2.todoS g.rest
  obtain ⟨W3, hW3⟩ : ∃ W3, W3 = W2.setCell ⟨wk, 3, none⟩ (.int .i64 g.rest) := ⟨_, rfl⟩
  rw [← hW3] at h3 b3
  have hnew : w1.heap.size ≠ wk := fun e => by omega
  have hbx3 : W3.heap[w1.heap.size]? = some (.cells #[.int .u8 k, .string nm, .slice a0 a1 a2, .slice p0 p1 p2, .bool false, .slice vo g.vs.length vc, .int .i64 g.cut, .int .i64 g.rest] 178 (0, 0)) := by rw [hW3, Below.heap_setCell _ _ _ _ hnew]; exact hbx
  have x7 : W2.cell? ⟨w1.heap.size, 7, none⟩ = some (.int .i64 g.rest) := by rw [cell_of_block hbx]; rfl
  have m3 := h2.cs.2.2.2.1
  have mf3 := h2.cs.2.2.2.2.2 3
  have hlt2 := h2.lt
  have hs2 : w1.heap.size < W2.heap.size := (Array.getElem?_eq_some_iff.1 hbx).1
  have z0 : W3.cell? ⟨w1.heap.size, 0, none⟩ = some (.int .u8 k) := by rw [cell_of_block hbx3]; rfl
  have z1 : W3.cell? ⟨w1.heap.size, 1, none⟩ = some (.string nm) := by rw [cell_of_block hbx3]; rfl
  have z2 : W3.cell? ⟨w1.heap.size, 2, none⟩ = some (.slice a0 a1 a2) := by rw [cell_of_block hbx3]; rfl
  have z3 : W3.cell? ⟨w1.heap.size, 3, none⟩ = some (.slice p0 p1 p2) := by rw [cell_of_block hbx3]; rfl
  have z4 : W3.cell? ⟨w1.heap.size, 4, none⟩ = some (.bool false) := by rw [cell_of_block hbx3]; rfl
  have hs3 : w1.heap.size < W3.heap.size := (Array.getElem?_eq_some_iff.1 hbx3).1
  obtain ⟨W4, hW4⟩ : ∃ W4, W4 = W3.alloc (.cells #[.int .u8 k, .string nm, .slice a0 a1 a2, .slice p0 p1 p2] 47) := ⟨_, rfl⟩
  have hB4 : Below W3.heap.size W3 W4 := by rw [hW4]; exact (Below.refl _ _).alloc (Nat.le_refl _) _
  have hbb : W4.heap[W3.heap.size]? = some (.cells #[.int .u8 k, .string nm, .slice a0 a1 a2, .slice p0 p1 p2] 47 (0, 0)) := by rw [hW4]; exact heap_alloc_new _ _
  have hbx4 := (hB4.block w1.heap.size hs3).trans hbx3
  have h4 := h3.below hB4
  obtain ⟨ko, kc, hkv⟩ := row_form h4.bo
  rw [hkv] at h4
  have hcap : s.bk.length ≤ kc ∧ kc ≤ maxLen := by
    rcases h4.bo.2 with ⟨q, q0⟩ | ⟨g, cp, cur, q, _, _, q3, q4, _⟩
    · injection q with _ _ q; exact ⟨by have : s.bk.length = 0 := q0; omega, by rw [q]; unfold maxLen; omega⟩
    · injection q with _ _ q; subst q; exact ⟨q3, q4⟩
  unfold maxLen at hcap
  obtain ⟨r0, r1, r2, r3, r4, rf⟩ := h4.cs
  have r4' : W4.cell? ⟨wk, 4, none⟩ = some (.slice ko s.bk.length kc) := r4
  have rf4 := rf 4
  have rf3 := rf 3
  have hlt4 := h4.lt
  have y0 : W4.cell? ⟨W3.heap.size, 0, none⟩ = some (.int .u8 k) := by rw [cell_of_block hbb]; rfl
  have y1 : W4.cell? ⟨W3.heap.size, 1, none⟩ = some (.string nm) := by rw [cell_of_block hbb]; rfl
  have y2 : W4.cell? ⟨W3.heap.size, 2, none⟩ = some (.slice a0 a1 a2) := by rw [cell_of_block hbb]; rfl
  have y3 : W4.cell? ⟨W3.heap.size, 3, none⟩ = some (.slice p0 p1 p2) := by rw [cell_of_block hbb]; rfl
  have x5 : W4.cell? ⟨w1.heap.size, 5, none⟩ = some (.slice vo g.vs.length vc) := by rw [cell_of_block hbx4]; rfl
  have x6 : W4.cell? ⟨w1.heap.size, 6, none⟩ = some (.int .i64 g.cut) := by rw [cell_of_block hbx4]; rfl
  have hs4 : W3.heap.size < W4.heap.size := (Array.getElem?_eq_some_iff.1 hbb).1
  have HBB : Hid (Below H0 w W4) := HB1.out.trans ((hB2.mono HH.out.size).trans (b3.trans (hB4.mono h3.size)))
  have H4 := hide h4
  have HBB4 := hide hbb
  have HBX4 := hide hbx4
  clear hW2 hB2 hbx h2 h3 b3 hbx3 g0 g1 g2 g3 g4 g5 g6 g7 c0 c1 c2 c3' c3'' c4 f3 f4 hbb hbx4 h4 hB4 rf r4
  go_upto_region 4 with fail
  rw [← hW3]
  clear hW3
  go_upto_region 8 with fail
  rw [← hW4]
  clear hW4
  clear z0 z1 z2 z3 z4 x7 m3 mf3 hlt2
  obtain ⟨hbr, hbo⟩ := (HH.out.gl g (List.mem_of_getElem? HT.out)).body HO.out
  rw [hgb, hcs] at hbr
  rw [hgb] at hbo
  obtain ⟨hk, hpr⟩ : k = 44 ∧ PRep w1 (fun b => b < H0) ps (.slice p0 p1 p2) := by cases hbr with | mk _ _ _ _ _ _ ha hp => exact ⟨rfl, hp⟩
  subst hk
  have hrv := (HH.out.gl g (List.mem_of_getElem? HT.out)).row
  have hp3 : ps.length ≤ 3000 := hbo.2.2.2.1
  have HBL := hide hbo.2.2.2.2
  have hpr4 : PRep W4 (fun b => b < H0) ps (.slice p0 p1 p2) := hpr.frame (fun b q _ => ⟨(HBB.out.block b q).trans (HB1.out.block b q).symm, q⟩)
  have hp1 : p1 = ps.length := by cases hpr4 <;> rfl
  subst hp1
  have HPR := hide hpr4
  have hkl : ∀ b, (Value.slice ko s.bk.length kc).ownBlock = some b → b < w1.heap.size := fun b e => (HH.out.bo.lt b (by rw [hkv]; exact e)).2
  have HSK : Hid (∀ (W : World) (lv' kv' : Value), KFr wk (.slice (some ⟨lg, 0, none⟩) s.ls.length lcap) lv' (.slice ko s.bk.length kc) kv' W4 W → Below H0 W4 W → W.cell? ⟨W3.heap.size, 3, none⟩ = some (.slice p0 ps.length p2) ∧ W.cell? ⟨w1.heap.size, 5, none⟩ = some (.slice vo g.vs.length vc) ∧ W.cell? ⟨w1.heap.size, 6, none⟩ = some (.int .i64 g.cut)) := fun W lv' kv' hK hB => by
    have b1 := (hK.block w1.heap.size (by omega) hnew (fun e => by have e' : lg = w1.heap.size := Option.some.inj e; omega) (fun e => by have := hkl _ e; omega)).trans HBX4.out
    have b2 := (hK.block W3.heap.size (by omega) (by omega) (fun e => by have e' : lg = W3.heap.size := Option.some.inj e; omega) (fun e => by have := hkl _ e; omega)).trans HBB4.out
    exact ⟨by rw [cell_of_block b2]; rfl, by rw [cell_of_block b1]; rfl, by rw [cell_of_block b1]; rfl⟩
  have hS4 := HSK.out W4 _ _ (KFr.refl _ _ _ _) (Below.refl _ _)
  have r3' : W4.cell? ⟨wk, 3, none⟩ = some (.int .i64 g.rest) := r3
  obtain ⟨s4, hs4'⟩ : ∃ s4 : Wk, s4 = { s with h := { s.h with cost := s.h.cost + 1 }, todo := g.rest } := ⟨_, rfl⟩
  have HF4 : Hid (s4.h = { s.h with cost := s.h.cost + 1 } ∧ s4.ls = s.ls ∧ s4.bk = s.bk ∧ s4.todo = g.rest) := by rw [hs4']; exact ⟨rfl, rfl, rfl, rfl⟩
  have HR4 : Hid (Run H0 W4 W4 wk hb V avs most fx (.slice (some ⟨lg, 0, none⟩) s.ls.length lcap) (.slice (some ⟨lg, 0, none⟩) s.ls.length lcap) (.slice ko s.bk.length kc) (.slice ko s.bk.length kc) s4 s4 0 0) := by
    rw [hs4']; exact Run.begin H4.out HC4.out
  have q1 : s4.ls.length ≤ 900000000 := by rw [hs4']; exact hls
  have q2 : s4.bk.length ≤ 900000000 := by rw [hs4']; exact hbl
  have q3 : g.cut ≤ s4.bk.length := by rw [hs4']; exact hcut
  have q4 : Hid (s4.bk.length = s.bk.length) := by rw [hs4']; exact (rfl : s.bk.length = s.bk.length)
  have HMM : Hid (g ∈ s4.ls) := by rw [hs4']; exact (List.mem_of_getElem? HT.out : g ∈ s.ls)
  have HC0 : Hid (cutOf s4.ls g.rest g.cut) := by rw [hs4']; exact HCR.out
  have HVV := hide hvv
  have hwk4 := HR4.out.h.lt
  clear hs4' HC4 HCR hkl r3 hpr hpr4 hvv hrv
  go_wp2_with fail
  go_loopg [6] (ps.length + 2) (fun gk v wr => ∃ (i : Nat) (lv1 : Value) (s0 s1 : Wk), v = .int .i64 ((i : Int) - 1) ∧ i ≤ ps.length ∧ i < gk ∧ Run H0 W4 wr wk hb V avs most fx (.slice (some ⟨lg, 0, none⟩) s.ls.length lcap) lv1 (.slice ko s.bk.length kc) (.slice ko s.bk.length kc) s0 s1 (ps.length - i) 0 ∧ s0.h = s4.h ∧ s0.ls = s4.ls ∧ s0.bk = s4.bk ∧ cutOf s1.ls s1.todo g.cut)
  case atStart => exact ⟨ps.length, _, s4, s4, by go_num, Nat.le_refl _, by omega, by rw [Nat.sub_self]; exact HR4.out, rfl, rfl, rfl, by rw [HF4.out.2.2.2]; exact HC0.out⟩
  case round =>
    obtain ⟨i, lv1, s0, s1, rfl, hi, hgk, R1, e1, e2, e3, hct⟩ := hrel
    rcases i with _ | j
    · have HF : Hid (StepZ H0 w wk hb most fx s (.returned (.bool true)) wr) := R1.fin HBB.out (e1.trans HF4.out.1) (e2.trans HF4.out.2.1) (e3.trans HF4.out.2.2.1) (by omega) (by omega)
      clear R1 e1 e2 e3 hct
      go_wp2_with fail
      go_ret
      exact HF.out
    · have hj : j < ps.length := by omega
      have ej : (((j + 1 : Nat) : Int) - 1) = (j : Nat) := by omega
      rw [ej]
      obtain ⟨pg, pc, m0, n0, u00, u01, u02, v00, v01, v02, hq, hpc1, hpc2, hpl, i0, i1, i2, i3, hR0⟩ := part_elem HPR.out hj
      obtain ⟨e4, e5⟩ : p0 = some ⟨pg, 0, none⟩ ∧ p2 = pc := by injection hq with e1 _ e3; exact ⟨e1, e3⟩
      subst e4 e5
      have hpg := HPR.out.okg
      have HSJ : Hid (∀ (W : World) (lv' kv' : Value), KFr wk (.slice (some ⟨lg, 0, none⟩) s.ls.length lcap) lv' (.slice ko s.bk.length kc) kv' W4 W → Below H0 W4 W → W.cell? ⟨W3.heap.size, 3, none⟩ = some (.slice (some ⟨pg, 0, none⟩) ps.length p2) ∧ W.cell? ⟨pg, j * 4, none⟩ = some (.int .u8 m0) ∧ W.cell? ⟨pg, j * 4 + 1, none⟩ = some (.string n0) ∧ W.cell? ⟨pg, j * 4 + 2, none⟩ = some (.slice u00 u01 u02) ∧ W.cell? ⟨pg, j * 4 + 3, none⟩ = some (.slice v00 v01 v02) ∧ W.cell? ⟨w1.heap.size, 5, none⟩ = some (.slice vo g.vs.length vc) ∧ W.cell? ⟨w1.heap.size, 6, none⟩ = some (.int .i64 g.cut)) := fun W lv' kv' hK hB => by
        obtain ⟨t1, t2, t3⟩ := HSK.out W lv' kv' hK hB
        have b3 : ∀ j, W.cell? ⟨pg, j, none⟩ = W4.cell? ⟨pg, j, none⟩ := fun j => by unfold World.cell?; rw [hB.block pg hpg]
        exact ⟨t1, (b3 _).trans i0, (b3 _).trans i1, (b3 _).trans i2, (b3 _).trans i3, t2, t3⟩
      have hS1 := HSJ.out _ _ _ R1.K R1.B
      have q5 : s0.ls.length = s4.ls.length := by rw [e2]
      have q6 : s0.bk.length = s4.bk.length := by rw [e3]
      have q7 : g.cut ≤ s0.bk.length := by omega
      have HP := hide (push_run R1.drew (by rw [e2]; exact HMM.out) (by omega) hR0 (HBL.out.get j hj) HVV.out g.cut s1.todo hct)
      have y1 : wr.cell? ⟨wk, 3, none⟩ = some (.int .i64 s1.todo) := R1.h.cs.2.2.2.1
      have hw1 := R1.h.lt
      have HE : Hid (s0.h = s4.h ∧ s0.ls = s4.ls ∧ s0.bk = s4.bk) := ⟨e1, e2, e3⟩
      clear R1 e1 e2 e3 hct hq i0 i1 i2 i3 hS4 q5 q6
      go_wp2_with fail
      refine wp_region_held_drew (S := fun w' => w'.cell? ⟨W3.heap.size, 3, none⟩ = some (.slice (some ⟨pg, 0, none⟩) ps.length p2) ∧ w'.cell? ⟨pg, j * 4, none⟩ = some (.int .u8 m0) ∧ w'.cell? ⟨pg, j * 4 + 1, none⟩ = some (.string n0) ∧ w'.cell? ⟨pg, j * 4 + 2, none⟩ = some (.slice u00 u01 u02) ∧ w'.cell? ⟨pg, j * 4 + 3, none⟩ = some (.slice v00 v01 v02) ∧ w'.cell? ⟨w1.heap.size, 5, none⟩ = some (.slice vo g.vs.length vc) ∧ w'.cell? ⟨w1.heap.size, 6, none⟩ = some (.int .i64 g.cut)) (by kernel_rfl) hS1 (fun hHeld => ?_)
      refine wpAnyH_take (i := 0) (v := .pointer (some ⟨wk, 0, none⟩)) rfl (by kernel_rfl) (by kernel_rfl) (by kernel_rfl) (fun _ _ _ h => h) (Or.inl ⟨by rfl, by intro w hSw; (try dsimp only at hSw); go_simp⟩) hHeld ?_
      (try simp only [Act.put, List.setIfInBounds_toArray])
      refine wpAnyH_take (i := 1) (v := .pointer (some ⟨wk, 0, none⟩)) rfl (by kernel_rfl) (by kernel_rfl) (by kernel_rfl) (fun _ _ _ h => h) (Or.inl ⟨by rfl, by intro w hSw; (try dsimp only at hSw); go_simp⟩) hHeld ?_
      (try simp only [Act.put, List.setIfInBounds_toArray])
      refine wpAnyH_take (i := 2) (v := .pointer (some ⟨W3.heap.size, 3, none⟩)) rfl (by kernel_rfl) (by kernel_rfl) (by kernel_rfl) (fun _ _ _ h => h) (Or.inl ⟨by rfl, by intro w hSw; (try dsimp only at hSw); go_simp⟩) hHeld ?_
      (try simp only [Act.put, List.setIfInBounds_toArray])
      refine wpAnyH_take (i := 3) (v := .slice (some ⟨pg, 0, none⟩) ps.length p2) rfl (by kernel_rfl) (by kernel_rfl) (by kernel_rfl) (fun _ _ _ h => h) (Or.inl ⟨by rfl, by intro w hSw; (try dsimp only at hSw); go_simp⟩) hHeld ?_
      (try simp only [Act.put, List.setIfInBounds_toArray])
      refine wpAnyH_take (i := 4) (v := .int .i64 (j : Nat)) rfl (by kernel_rfl) (by kernel_rfl) (by kernel_rfl) (fun _ _ _ h => h) (Or.inl ⟨by rfl, by intro w hSw; (try dsimp only at hSw); go_simp⟩) hHeld ?_
      (try simp only [Act.put, List.setIfInBounds_toArray])
      refine wpAnyH_take (i := 5) (v := .pointer (some ⟨pg, j * 4, none⟩)) rfl (by kernel_rfl) (by kernel_rfl) (by kernel_rfl) (fun _ _ _ h => h) (Or.inl ⟨by rfl, by intro w hSw; (try dsimp only at hSw); go_simp⟩) hHeld ?_
      (try simp only [Act.put, List.setIfInBounds_toArray])
      refine wpAnyH_take (i := 6) (v := .agg #[.int .u8 m0, .string n0, .slice u00 u01 u02, .slice v00 v01 v02]) rfl (by kernel_rfl) (by kernel_rfl) (by kernel_rfl) (fun _ _ _ h => h) (Or.inl ⟨by rfl, by intro w hSw; (try dsimp only at hSw); go_simp⟩) hHeld ?_
      (try simp only [Act.put, List.setIfInBounds_toArray])
      refine wpAnyH_take (i := 7) (v := .pointer (some ⟨w1.heap.size, 5, none⟩)) rfl (by kernel_rfl) (by kernel_rfl) (by kernel_rfl) (fun _ _ _ h => h) (Or.inl ⟨by rfl, by intro w hSw; (try dsimp only at hSw); go_simp⟩) hHeld ?_
      (try simp only [Act.put, List.setIfInBounds_toArray])
      refine wpAnyH_take (i := 8) (v := .slice vo g.vs.length vc) rfl (by kernel_rfl) (by kernel_rfl) (by kernel_rfl) (fun _ _ _ h => h) (Or.inl ⟨by rfl, by intro w hSw; (try dsimp only at hSw); go_simp⟩) hHeld ?_
      (try simp only [Act.put, List.setIfInBounds_toArray])
      refine wpAnyH_take (i := 9) (v := .pointer (some ⟨w1.heap.size, 6, none⟩)) rfl (by kernel_rfl) (by kernel_rfl) (by kernel_rfl) (fun _ _ _ h => h) (Or.inl ⟨by rfl, by intro w hSw; (try dsimp only at hSw); go_simp⟩) hHeld ?_
      (try simp only [Act.put, List.setIfInBounds_toArray])
      refine wpAnyH_take (i := 10) (v := .int .i64 g.cut) rfl (by kernel_rfl) (by kernel_rfl) (by kernel_rfl) (fun _ _ _ h => h) (Or.inl ⟨by rfl, by intro w hSw; (try dsimp only at hSw); go_simp⟩) hHeld ?_
      (try simp only [Act.put, List.setIfInBounds_toArray])
      refine wpAnyH_take (i := 11) (v := .pointer (some ⟨wk, 0, none⟩)) rfl (by kernel_rfl) (by kernel_rfl) (by kernel_rfl) (fun _ _ _ h => h) (Or.inl ⟨by rfl, by intro w hSw; (try dsimp only at hSw); go_simp⟩) hHeld ?_
      (try simp only [Act.put, List.setIfInBounds_toArray])
      refine wpAnyH_take (i := 12) (v := .pointer (some ⟨wk, 0, none⟩)) rfl (by kernel_rfl) (by kernel_rfl) (by kernel_rfl) (fun _ _ _ h => h) (Or.inl ⟨by rfl, by intro w hSw; (try dsimp only at hSw); go_simp⟩) hHeld ?_
      (try simp only [Act.put, List.setIfInBounds_toArray])
      refine wpAnyH_take (i := 13) (v := .pointer (some ⟨wk, 3, none⟩)) rfl (by kernel_rfl) (by kernel_rfl) (by kernel_rfl) (fun _ _ _ h => h) (Or.inl ⟨by rfl, by intro w hSw; (try dsimp only at hSw); go_simp⟩) hHeld ?_
      (try simp only [Act.put, List.setIfInBounds_toArray])
      refine wpAnyH_ready (rs := [14]) (by kernel_rfl) (by simp) ?_
      refine AllReadyH.cons rfl (fun K hK => ?_) AllReadyH.nil
      go_simp
      refine hK.out _ _ hHeld (fun hHeld2 => ?_)
      clear hK K
      refine wpAnyH_ready (rs := [15]) (by kernel_rfl) (by simp) ?_
      refine AllReadyH.cons rfl (fun K hK => ?_) AllReadyH.nil
      go_simp
      go_wp2_with (go_at_call 58; refine HP.out.mono ?_; rintro e w2 ⟨rfl, lv2, s2, R2, c2, m2⟩; have HR2 := hide R2; have HC2 := hide c2; have hS2 := HSJ.out _ _ _ R2.K R2.B; have hw2 := R2.h.lt; have y9 : w2.cell? ⟨wk, 3, none⟩ = some (.int .i64 s2.todo) := R2.h.cs.2.2.2.1; have yf2 := R2.h.cs.2.2.2.2.2 3; have hSs : ∀ v, (w2.setCell ⟨wk, 3, none⟩ v).cell? ⟨W3.heap.size, 3, none⟩ = some (.slice (some ⟨pg, 0, none⟩) ps.length p2) ∧ (w2.setCell ⟨wk, 3, none⟩ v).cell? ⟨pg, j * 4, none⟩ = some (.int .u8 m0) ∧ (w2.setCell ⟨wk, 3, none⟩ v).cell? ⟨pg, j * 4 + 1, none⟩ = some (.string n0) ∧ (w2.setCell ⟨wk, 3, none⟩ v).cell? ⟨pg, j * 4 + 2, none⟩ = some (.slice u00 u01 u02) ∧ (w2.setCell ⟨wk, 3, none⟩ v).cell? ⟨pg, j * 4 + 3, none⟩ = some (.slice v00 v01 v02) ∧ (w2.setCell ⟨wk, 3, none⟩ v).cell? ⟨w1.heap.size, 5, none⟩ = some (.slice vo g.vs.length vc) ∧ (w2.setCell ⟨wk, 3, none⟩ v).cell? ⟨w1.heap.size, 6, none⟩ = some (.int .i64 g.cut) := fun v => HSJ.out _ _ _ (R2.K.trans (KFr.setW _ 3 _ _ v _)) (R2.B.setCell (p := ⟨wk, 3, none⟩) R2.h.nw _); clear R2 c2 m2)
      refine hK.out _ _ hS2 (fun hHeld3 => ?_)
      clear hK K
      refine wpAnyH_take (i := 16) (v := .pointer (some ⟨wk, 0, none⟩)) rfl (by kernel_rfl) (by kernel_rfl) (by kernel_rfl) (fun _ _ _ h => h) (Or.inl ⟨by rfl, by intro w hSw; (try dsimp only at hSw); go_simp⟩) hHeld3 ?_
      (try simp only [Act.put, List.setIfInBounds_toArray])
      refine wpAnyH_take (i := 17) (v := .pointer (some ⟨wk, 3, none⟩)) rfl (by kernel_rfl) (by kernel_rfl) (by kernel_rfl) (fun _ _ _ h => h) (Or.inl ⟨by rfl, by intro w hSw; (try dsimp only at hSw); go_simp⟩) hHeld3 ?_
      (try simp only [Act.put, List.setIfInBounds_toArray])
      refine wpAnyH_ready (rs := [18]) (by kernel_rfl) (by simp) ?_
      refine AllReadyH.cons rfl (fun K hK => ?_) AllReadyH.nil
      go_simp
      refine hK.out _ _ (hSs _) (fun hHeld4 => ?_)
      clear hK K hHeld4 hHeld3 hHeld
      refine wpAnyH_done (by kernel_rfl) ?_ _
      all_goals
        have HN := hide (HR2.out.todoS s1.ls.length (HC2.out _ q7))
        clear hSs
        go_wp2_with fail
        go_roundg (gk - 1)
        case measure => omega
        case rel => exact ⟨j, lv2, { s0 with todo := s1.ls.length }, { s2 with todo := s1.ls.length }, by go_num, by omega, by omega, by rw [show ps.length - j = ps.length - (j + 1) + 1 by omega]; exact HN.out, HE.out.1, HE.out.2.1, HE.out.2.2, HC2.out _ (Nat.le_refl _)⟩
end
section
variable {H0 : Nat} {w : World} {wk hb : Nat} {V : _root_.Fin 6 → Value} {avs : List Value} {most : Int} {lv kv : Value} {fx : Fix} {s : Wk}
theorem step_goal {gb bc : Nat} {av k0 m0 ba bq vv0 : Value} {c : Cl} (hA : BaseIs w H0 fx.a gb bc av k0 m0 ba bq vv0 c) (hm0 : 0 ≤ most) (hm : most ≤ 100000000) (hT : s.h.T.length + 3000 ≤ 900000000) (h : WkIn H0 w wk hb V avs most lv kv fx s) (hch : Chain s) (hc : s.h.cost ≤ 900000000) (t : Nat) (g : Gl) (hto : s.todo = t) (ht : s.ls[t]? = some g) (ho : g.only = false) (hls : s.ls.length ≤ 900000000) (hbl : s.bk.length ≤ 900000000) (nm0 : ByteArray) (ar : List Ex) (ps : List Bd) (hgb : g.b = .mk 103 nm0 ar ps) :
    Calls Tryz.prog 89 #[.pointer (some ⟨wk, 0, none⟩)] w fun e w' => StepZ H0 w wk hb most fx s e w' := by
  have hcut := hch.at hto ht
  have hsw := h.size
  have HC4 : Hid (Chain { s with h := { s.h with cost := s.h.cost + 1 }, todo := g.rest }) := (hch.heap _).todoS ((hch.ls g (List.mem_of_getElem? ht)).mono hcut)
  have HCR : Hid (cutOf s.ls g.rest g.cut) := hch.ls g (List.mem_of_getElem? ht)
  clear hch
  have hc0 := h.S.c0
  obtain ⟨c0, c1, c2, c3, c4, cf⟩ := h.cs
  have d6 : w.cell? ⟨hb, 6, none⟩ = some (.int .i64 s.h.cost) := by rw [h.S.H.tab.H.c 6]; rfl
  have e6 := h.S.H.tab.H.fz 6
  have hhb := h.S.H.tab.H.lt_size
  have hlt := h.lt
  obtain ⟨q1, q2⟩ := h.S.count (s.h.cost + 1) (by omega)
  obtain ⟨h1, b1⟩ := h.heaped q1 q2 (List.prefix_refl _)
  obtain ⟨w1, hw1⟩ : ∃ w1, w1 = w.setCell ⟨hb, 6, none⟩ (.int .i64 (s.h.cost + 1)) := ⟨_, rfl⟩
  rw [← hw1] at h1 b1
  have HH := hide h1
  have HB1 := hide b1
  have htl : t < s.ls.length := (List.getElem?_eq_some_iff.1 ht).1
  have HT := hide ht
  have HO := hide ho
  clear h h1 b1 q1 q2 cf ht ho
  go_enter Tryz.func89, Tryz.ntmps89
  go_upto_region 2 with fail
  rw [← hw1]
  clear hw1 c0 c1 c2 c3 c4 d6 e6 hhb hlt
  obtain ⟨c0, c1, c2, c3, c4, cf⟩ := HH.out.cs
  have hlt := HH.out.lt
  obtain ⟨lg, lcap, k, nm, a0, a1, a2, p0, p1, p2, rfl, hlg, hcs, g0, g1, g2, g3, g4, g5, g6, g7⟩ := HH.out.listAt HT.out
  have hrow := (HH.out.gl g (List.mem_of_getElem? HT.out)).row.own
  obtain ⟨vo, vc, hvv⟩ := row_form hrow
  rw [hvv] at g5
  rw [HO.out] at g4
  have c3' : w1.cell? ⟨wk, 3, none⟩ = some (.int .i64 (t : Nat)) := by rw [c3, ← hto]
  have c3'' : w1.drew.cell? ⟨wk, 3, none⟩ = some (.int .i64 (t : Nat)) := c3'
  have f3 := cf 3
  have f4 := cf 4
  clear cf c3 hrow
  go_wp2_with fail
  go_region
  obtain ⟨W2, hW2⟩ : ∃ W2, W2 = (w1.alloc (.cells #[.int .u8 k, .string nm, .slice a0 a1 a2, .slice p0 p1 p2, .bool false, .slice vo g.vs.length vc, .int .i64 g.cut, .int .i64 g.rest] 178)).drew := ⟨_, rfl⟩
  have hB2 : Below w1.heap.size w1 W2 := by rw [hW2]; exact ((Below.refl _ _).alloc (Nat.le_refl _) _).drew
  have hbx : W2.heap[w1.heap.size]? = some (.cells #[.int .u8 k, .string nm, .slice a0 a1 a2, .slice p0 p1 p2, .bool false, .slice vo g.vs.length vc, .int .i64 g.cut, .int .i64 g.rest] 178 (0, 0)) := by rw [hW2]; exact heap_alloc_new w1 _
  rw [← hW2]
  have h2 := HH.out.below hB2
  obtain ⟨h3, b3⟩ := h2.todoS g.rest
  obtain ⟨W3, hW3⟩ : ∃ W3, W3 = W2.setCell ⟨wk, 3, none⟩ (.int .i64 g.rest) := ⟨_, rfl⟩
  rw [← hW3] at h3 b3
  have hnew : w1.heap.size ≠ wk := fun e => by omega
  have hbx3 : W3.heap[w1.heap.size]? = some (.cells #[.int .u8 k, .string nm, .slice a0 a1 a2, .slice p0 p1 p2, .bool false, .slice vo g.vs.length vc, .int .i64 g.cut, .int .i64 g.rest] 178 (0, 0)) := by rw [hW3, Below.heap_setCell _ _ _ _ hnew]; exact hbx
  have x7 : W2.cell? ⟨w1.heap.size, 7, none⟩ = some (.int .i64 g.rest) := by rw [cell_of_block hbx]; rfl
  have m3 := h2.cs.2.2.2.1
  have mf3 := h2.cs.2.2.2.2.2 3
  have hlt2 := h2.lt
  have hs2 : w1.heap.size < W2.heap.size := (Array.getElem?_eq_some_iff.1 hbx).1
  have z0 : W3.cell? ⟨w1.heap.size, 0, none⟩ = some (.int .u8 k) := by rw [cell_of_block hbx3]; rfl
  have z1 : W3.cell? ⟨w1.heap.size, 1, none⟩ = some (.string nm) := by rw [cell_of_block hbx3]; rfl
  have z2 : W3.cell? ⟨w1.heap.size, 2, none⟩ = some (.slice a0 a1 a2) := by rw [cell_of_block hbx3]; rfl
  have z3 : W3.cell? ⟨w1.heap.size, 3, none⟩ = some (.slice p0 p1 p2) := by rw [cell_of_block hbx3]; rfl
  have z4 : W3.cell? ⟨w1.heap.size, 4, none⟩ = some (.bool false) := by rw [cell_of_block hbx3]; rfl
  have hs3 : w1.heap.size < W3.heap.size := (Array.getElem?_eq_some_iff.1 hbx3).1
  obtain ⟨W4, hW4⟩ : ∃ W4, W4 = W3.alloc (.cells #[.int .u8 k, .string nm, .slice a0 a1 a2, .slice p0 p1 p2] 47) := ⟨_, rfl⟩
  have hB4 : Below W3.heap.size W3 W4 := by rw [hW4]; exact (Below.refl _ _).alloc (Nat.le_refl _) _
  have hbb : W4.heap[W3.heap.size]? = some (.cells #[.int .u8 k, .string nm, .slice a0 a1 a2, .slice p0 p1 p2] 47 (0, 0)) := by rw [hW4]; exact heap_alloc_new _ _
  have hbx4 := (hB4.block w1.heap.size hs3).trans hbx3
  have h4 := h3.below hB4
  obtain ⟨ko, kc, hkv⟩ := row_form h4.bo
  rw [hkv] at h4
  have hcap : s.bk.length ≤ kc ∧ kc ≤ maxLen := by
    rcases h4.bo.2 with ⟨q, q0⟩ | ⟨g, cp, cur, q, _, _, q3, q4, _⟩
    · injection q with _ _ q; exact ⟨by have : s.bk.length = 0 := q0; omega, by rw [q]; unfold maxLen; omega⟩
    · injection q with _ _ q; subst q; exact ⟨q3, q4⟩
  unfold maxLen at hcap
  obtain ⟨r0, r1, r2, r3, r4, rf⟩ := h4.cs
  have r4' : W4.cell? ⟨wk, 4, none⟩ = some (.slice ko s.bk.length kc) := r4
  have rf4 := rf 4
  have rf3 := rf 3
  have hlt4 := h4.lt
  have y0 : W4.cell? ⟨W3.heap.size, 0, none⟩ = some (.int .u8 k) := by rw [cell_of_block hbb]; rfl
  have y1 : W4.cell? ⟨W3.heap.size, 1, none⟩ = some (.string nm) := by rw [cell_of_block hbb]; rfl
  have y2 : W4.cell? ⟨W3.heap.size, 2, none⟩ = some (.slice a0 a1 a2) := by rw [cell_of_block hbb]; rfl
  have y3 : W4.cell? ⟨W3.heap.size, 3, none⟩ = some (.slice p0 p1 p2) := by rw [cell_of_block hbb]; rfl
  have x5 : W4.cell? ⟨w1.heap.size, 5, none⟩ = some (.slice vo g.vs.length vc) := by rw [cell_of_block hbx4]; rfl
  have x6 : W4.cell? ⟨w1.heap.size, 6, none⟩ = some (.int .i64 g.cut) := by rw [cell_of_block hbx4]; rfl
  have hs4 : W3.heap.size < W4.heap.size := (Array.getElem?_eq_some_iff.1 hbb).1
  have HBB : Hid (Below H0 w W4) := HB1.out.trans ((hB2.mono HH.out.size).trans (b3.trans (hB4.mono h3.size)))
  have H4 := hide h4
  have HBB4 := hide hbb
  have HBX4 := hide hbx4
  clear hW2 hB2 hbx h2 h3 b3 hbx3 g0 g1 g2 g3 g4 g5 g6 g7 c0 c1 c2 c3' c3'' c4 f3 f4 hbb hbx4 h4 hB4 rf r4
  go_upto_region 4 with fail
  rw [← hW3]
  clear hW3
  go_upto_region 8 with fail
  rw [← hW4]
  clear hW4
  clear z0 z1 z2 z3 z4 x7 m3 mf3 hlt2
  obtain ⟨hbr, hbo⟩ := (HH.out.gl g (List.mem_of_getElem? HT.out)).body HO.out
  rw [hgb, hcs] at hbr
  rw [hgb] at hbo
  obtain ⟨hk, hpr⟩ : k = 103 ∧ PRep w1 (fun b => b < H0) ps (.slice p0 p1 p2) := by cases hbr with | mk _ _ _ _ _ _ ha hp => exact ⟨rfl, hp⟩
  subst hk
  have hrv := (HH.out.gl g (List.mem_of_getElem? HT.out)).row
  have hT4 : s.h.T.length + 3000 ≤ 900000000 := hT
  have HA4 := hide (hA.keep hsw HBB.out)
  have HBR4 : Hid (BRep W4 (fun b => b < H0) (.mk 103 nm0 ar ps) [.int .u8 103, .string nm, .slice a0 a1 a2, .slice p0 p1 p2]) := hbr.move (fun b q => (HBB.out.block b q).trans (HB1.out.block b q).symm)
  have HRV : Hid (RowV W4 hb V s.h.T.length g.vv g.vs) := (H4.out.gl g (List.mem_of_getElem? HT.out)).row
  have HG := hide (goal_z (s := { s with h := { s.h with cost := s.h.cost + 1 }, todo := g.rest }) H4.out HA4.out hls (by show s.bk.length ≤ _; omega) hT4 hm0 hm (by show s.h.cost + 1 ≤ _; omega) 103 nm0 ar ps _ HBR4.out g.vv g.vs HRV.out hbo.1 hbo.2.1)
  rw [hvv] at HG
  clear HBR4 HRV hbo hbr hpr hrv hvv hA
  go_wp2_with (go_at_call 134; refine HG.out.mono ?_; rintro e w5 ⟨r, s5, V5, avs5, lv5, kv5, rfl, h5, b5, L5, g5⟩)
  have HF : Hid (StepZ H0 w wk hb most fx s (.returned (.bool r)) w5) := by
    obtain ⟨z1, z2, z3, z4⟩ := HC4.out.goOn g5
    refine ⟨r, s5, V5, avs5, lv5, kv5, rfl, h5, HBB.out.trans b5, ?_, ?_, ?_, ?_, z1, z4⟩
    · have L0 : Later s.h { s.h with cost := s.h.cost + 1 } 0 (s.h.cost + 1) := Later.count _ (Int.le_refl _)
      have L6 := L0.trans L5
      refine L6.mono (by omega) ?_
      show max (s.h.cost + 1 + 2) _ ≤ _
      omega
    · have := L5.lo; exact this
    · have : s5.ls.length ≤ s.ls.length + 1 := z2; omega
    · have : s5.bk.length = s.bk.length := z3; omega
  clear h5 b5 L5 g5
  go_wp2_with fail
  go_ret
  exact HF.out
end
end Go.Proofs.YtodpkdajbnceoaaGreatDoor
