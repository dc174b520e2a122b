import Derived.Test.YtodpkdajbnceoaaGreatDoorPart20
set_option linter.all false
set_option maxHeartbeats 4000000
set_option maxRecDepth 100000
namespace Go.Proofs.YtodpkdajbnceoaaGreatDoor
open Go.RowKit
section
variable {H0 : Nat} {w : World} {wk hb : Nat} {V : _root_.Fin 6 → Value} {avs : List Value} {most : Int} {lv kv : Value} {fx : Fix} {s : Wk}
theorem step_if (h : WkIn H0 w wk hb V avs most lv kv fx s) (hch : Chain s) (hc : s.h.cost ≤ 1000000000000) (t : Nat) (g : Gl) (hto : s.todo = t) (ht : s.ls[t]? = some g) (ho : g.only = false) (hls : s.ls.length ≤ 900000000) (hbl : s.bk.length ≤ 900000000) (nm0 : ByteArray) (ar : List Ex) (ps : List Bd) (hgb : g.b = .mk 63 nm0 ar ps) :
    Calls Tryz.prog 89 #[.pointer (some ⟨wk, 0, none⟩)] w fun e w' => StepZ H0 w wk hb most fx s e w' := by
  have hcut := hch.at hto ht
  have HC4 : Hid (Chain { s with h := { s.h with cost := s.h.cost + 1 }, todo := g.rest }) := (hch.heap _).todoS ((hch.ls g (List.mem_of_getElem? ht)).mono hcut)
  have HCR : Hid (cutOf s.ls g.rest g.cut) := hch.ls g (List.mem_of_getElem? ht)
  clear hch
  have hc0 := h.S.c0
  obtain ⟨c0, c1, c2, c3, c4, cf⟩ := h.cs
  have d6 : w.cell? ⟨hb, 6, none⟩ = some (.int .i64 s.h.cost) := by rw [h.S.H.tab.H.c 6]; rfl
  have e6 := h.S.H.tab.H.fz 6
  have hhb := h.S.H.tab.H.lt_size
  have hlt := h.lt
  obtain ⟨q1, q2⟩ := h.S.count (s.h.cost + 1) (by omega)
  obtain ⟨h1, b1⟩ := h.heaped q1 q2 (List.prefix_refl _)
  obtain ⟨w1, hw1⟩ : ∃ w1, w1 = w.setCell ⟨hb, 6, none⟩ (.int .i64 (s.h.cost + 1)) := ⟨_, rfl⟩
  rw [← hw1] at h1 b1
  have HH := hide h1
  have HB1 := hide b1
  have htl : t < s.ls.length := (List.getElem?_eq_some_iff.1 ht).1
  have HT := hide ht
  have HO := hide ho
  clear h h1 b1 q1 q2 cf ht ho
  go_enter Tryz.func89, Tryz.ntmps89
  go_upto_region 2 with fail
  rw [← hw1]
  clear hw1 c0 c1 c2 c3 c4 d6 e6 hhb hlt
  obtain ⟨c0, c1, c2, c3, c4, cf⟩ := HH.out.cs
  have hlt := HH.out.lt
  obtain ⟨lg, lcap, k, nm, a0, a1, a2, p0, p1, p2, rfl, hlg, hcs, g0, g1, g2, g3, g4, g5, g6, g7⟩ := HH.out.listAt HT.out
  have hrow := (HH.out.gl g (List.mem_of_getElem? HT.out)).row.own
  obtain ⟨vo, vc, hvv⟩ := row_form hrow
  rw [hvv] at g5
  rw [HO.out] at g4
  have c3' : w1.cell? ⟨wk, 3, none⟩ = some (.int .i64 (t : Nat)) := by rw [c3, ← hto]
  have c3'' : w1.drew.cell? ⟨wk, 3, none⟩ = some (.int .i64 (t : Nat)) := c3'
  have f3 := cf 3
  have f4 := cf 4
  clear cf c3 hrow
  go_wp2_with fail
  go_region
  obtain ⟨W2, hW2⟩ : ∃ W2, W2 = (w1.alloc (.cells #[.int .u8 k, .string nm, .slice a0 a1 a2, .slice p0 p1 p2, .bool false, .slice vo g.vs.length vc, .int .i64 g.cut, .int .i64 g.rest] 178)).drew := ⟨_, rfl⟩
  have hB2 : Below w1.heap.size w1 W2 := by rw [hW2]; exact ((Below.refl _ _).alloc (Nat.le_refl _) _).drew
  have hbx : W2.heap[w1.heap.size]? = some (.cells #[.int .u8 k, .string nm, .slice a0 a1 a2, .slice p0 p1 p2, .bool false, .slice vo g.vs.length vc, .int .i64 g.cut, .int .i64 g.rest] 178 (0, 0)) := by rw [hW2]; exact heap_alloc_new w1 _
  rw [← hW2]
  have h2 := HH.out.below hB2
  obtain ⟨h3, b3⟩ := h2.todoS g.rest
  obtain ⟨W3, hW3⟩ : ∃ W3, W3 = W2.setCell ⟨wk, 3, none⟩ (.int .i64 g.rest) := ⟨_, rfl⟩
  rw [← hW3] at h3 b3
  have hnew : w1.heap.size ≠ wk := fun e => by omega
  have hbx3 : W3.heap[w1.heap.size]? = some (.cells #[.int .u8 k, .string nm, .slice a0 a1 a2, .slice p0 p1 p2, .bool false, .slice vo g.vs.length vc, .int .i64 g.cut, .int .i64 g.rest] 178 (0, 0)) := by rw [hW3, Below.heap_setCell _ _ _ _ hnew]; exact hbx
  have x7 : W2.cell? ⟨w1.heap.size, 7, none⟩ = some (.int .i64 g.rest) := by rw [cell_of_block hbx]; rfl
  have m3 := h2.cs.2.2.2.1
  have mf3 := h2.cs.2.2.2.2.2 3
  have hlt2 := h2.lt
  have hs2 : w1.heap.size < W2.heap.size := (Array.getElem?_eq_some_iff.1 hbx).1
  have z0 : W3.cell? ⟨w1.heap.size, 0, none⟩ = some (.int .u8 k) := by rw [cell_of_block hbx3]; rfl
  have z1 : W3.cell? ⟨w1.heap.size, 1, none⟩ = some (.string nm) := by rw [cell_of_block hbx3]; rfl
  have z2 : W3.cell? ⟨w1.heap.size, 2, none⟩ = some (.slice a0 a1 a2) := by rw [cell_of_block hbx3]; rfl
  have z3 : W3.cell? ⟨w1.heap.size, 3, none⟩ = some (.slice p0 p1 p2) := by rw [cell_of_block hbx3]; rfl
  have z4 : W3.cell? ⟨w1.heap.size, 4, none⟩ = some (.bool false) := by rw [cell_of_block hbx3]; rfl
  have hs3 : w1.heap.size < W3.heap.size := (Array.getElem?_eq_some_iff.1 hbx3).1
  obtain ⟨W4, hW4⟩ : ∃ W4, W4 = W3.alloc (.cells #[.int .u8 k, .string nm, .slice a0 a1 a2, .slice p0 p1 p2] 47) := ⟨_, rfl⟩
  have hB4 : Below W3.heap.size W3 W4 := by rw [hW4]; exact (Below.refl _ _).alloc (Nat.le_refl _) _
  have hbb : W4.heap[W3.heap.size]? = some (.cells #[.int .u8 k, .string nm, .slice a0 a1 a2, .slice p0 p1 p2] 47 (0, 0)) := by rw [hW4]; exact heap_alloc_new _ _
  have hbx4 := (hB4.block w1.heap.size hs3).trans hbx3
  have h4 := h3.below hB4
  obtain ⟨ko, kc, hkv⟩ := row_form h4.bo
  rw [hkv] at h4
  have hcap : s.bk.length ≤ kc ∧ kc ≤ maxLen := by
    rcases h4.bo.2 with ⟨q, q0⟩ | ⟨g, cp, cur, q, _, _, q3, q4, _⟩
    · injection q with _ _ q; exact ⟨by have : s.bk.length = 0 := q0; omega, by rw [q]; unfold maxLen; omega⟩
    · injection q with _ _ q; subst q; exact ⟨q3, q4⟩
  unfold maxLen at hcap
  obtain ⟨r0, r1, r2, r3, r4, rf⟩ := h4.cs
  have r4' : W4.cell? ⟨wk, 4, none⟩ = some (.slice ko s.bk.length kc) := r4
  have rf4 := rf 4
  have rf3 := rf 3
  have hlt4 := h4.lt
  have y0 : W4.cell? ⟨W3.heap.size, 0, none⟩ = some (.int .u8 k) := by rw [cell_of_block hbb]; rfl
  have y1 : W4.cell? ⟨W3.heap.size, 1, none⟩ = some (.string nm) := by rw [cell_of_block hbb]; rfl
  have y2 : W4.cell? ⟨W3.heap.size, 2, none⟩ = some (.slice a0 a1 a2) := by rw [cell_of_block hbb]; rfl
  have y3 : W4.cell? ⟨W3.heap.size, 3, none⟩ = some (.slice p0 p1 p2) := by rw [cell_of_block hbb]; rfl
  have x5 : W4.cell? ⟨w1.heap.size, 5, none⟩ = some (.slice vo g.vs.length vc) := by rw [cell_of_block hbx4]; rfl
  have x6 : W4.cell? ⟨w1.heap.size, 6, none⟩ = some (.int .i64 g.cut) := by rw [cell_of_block hbx4]; rfl
  have hs4 : W3.heap.size < W4.heap.size := (Array.getElem?_eq_some_iff.1 hbb).1
  have HBB : Hid (Below H0 w W4) := HB1.out.trans ((hB2.mono HH.out.size).trans (b3.trans (hB4.mono h3.size)))
  have H4 := hide h4
  have HBB4 := hide hbb
  have HBX4 := hide hbx4
  clear hW2 hB2 hbx h2 h3 b3 hbx3 g0 g1 g2 g3 g4 g5 g6 g7 c0 c1 c2 c3' c3'' c4 f3 f4 hbb hbx4 h4 hB4 rf r4
  go_upto_region 4 with fail
  rw [← hW3]
  clear hW3
  go_upto_region 8 with fail
  rw [← hW4]
  clear hW4
  clear z0 z1 z2 z3 z4 x7 m3 mf3 hlt2
  obtain ⟨hbr, hbo⟩ := (HH.out.gl g (List.mem_of_getElem? HT.out)).body HO.out
  rw [hgb, hcs] at hbr
  rw [hgb] at hbo
  obtain ⟨hk, hpr⟩ : k = 63 ∧ PRep w1 (fun b => b < H0) ps (.slice p0 p1 p2) := by cases hbr with | mk _ _ _ _ _ _ ha hp => exact ⟨rfl, hp⟩
  subst hk
  have hrv := (HH.out.gl g (List.mem_of_getElem? HT.out)).row
  obtain ⟨x0, x1, x2, rfl⟩ : ∃ x0 x1 x2, ps = [x0, x1, x2] := by
    have hl : ps.length = 3 := by
      rcases hbo.2.2.1 with q | q | ⟨q, r⟩ | ⟨q, r⟩ | ⟨q, r⟩ | q
      all_goals first | exact absurd q (by decide) | exact r
    match ps, hl with
    | [x0, x1, x2], _ => exact ⟨_, _, _, rfl⟩
  have hpr4 : PRep W4 (fun b => b < H0) [x0, x1, x2] (.slice p0 p1 p2) := hpr.frame (fun b q _ => ⟨(HBB.out.block b q).trans (HB1.out.block b q).symm, q⟩)
  obtain ⟨pg, pc, m0, n0, u00, u01, u02, v00, v01, v02, hq, hpc1, hpc2, hpl, i00, i01, i02, i03, hR0⟩ := part_elem hpr4 (k := 0) (by simp)
  obtain ⟨e1, e2, e3⟩ : p0 = some ⟨pg, 0, none⟩ ∧ p1 = 3 ∧ p2 = pc := by injection hq with e1 e2 e3; exact ⟨e1, e2, e3⟩
  subst e1 e2 e3
  have hpg := hpr4.okg
  simp only [List.length_cons, List.length_nil] at hpc1
  have j00 : W4.cell? ⟨pg, 0, none⟩ = some (.int .u8 m0) := i00
  have j01 : W4.cell? ⟨pg, 1, none⟩ = some (.string n0) := i01
  have j02 : W4.cell? ⟨pg, 2, none⟩ = some (.slice u00 u01 u02) := i02
  have j03 : W4.cell? ⟨pg, 3, none⟩ = some (.slice v00 v01 v02) := i03
  obtain ⟨pg', pc', m1, n1, u10, u11, u12, v10, v11, v12, hq', _, _, _, i10, i11, i12, i13, hR1⟩ := part_elem hpr4 (k := 1) (by simp)
  obtain ⟨e1, e2⟩ : pg = pg' ∧ p2 = pc' := by injection hq' with e1 _ e3; injection e1 with e1; injection e1 with e1; exact ⟨e1, e3⟩
  subst e1 e2
  clear hq'
  have j10 : W4.cell? ⟨pg, 4, none⟩ = some (.int .u8 m1) := i10
  have j11 : W4.cell? ⟨pg, 5, none⟩ = some (.string n1) := i11
  have j12 : W4.cell? ⟨pg, 6, none⟩ = some (.slice u10 u11 u12) := i12
  have j13 : W4.cell? ⟨pg, 7, none⟩ = some (.slice v10 v11 v12) := i13
  obtain ⟨pg', pc', m2, n2, u20, u21, u22, v20, v21, v22, hq', _, _, _, i20, i21, i22, i23, hR2⟩ := part_elem hpr4 (k := 2) (by simp)
  obtain ⟨e1, e2⟩ : pg = pg' ∧ p2 = pc' := by injection hq' with e1 _ e3; injection e1 with e1; injection e1 with e1; exact ⟨e1, e3⟩
  subst e1 e2
  clear hq'
  have j20 : W4.cell? ⟨pg, 8, none⟩ = some (.int .u8 m2) := i20
  have j21 : W4.cell? ⟨pg, 9, none⟩ = some (.string n2) := i21
  have j22 : W4.cell? ⟨pg, 10, none⟩ = some (.slice u20 u21 u22) := i22
  have j23 : W4.cell? ⟨pg, 11, none⟩ = some (.slice v20 v21 v22) := i23
  have hkl : ∀ b, (Value.slice ko s.bk.length kc).ownBlock = some b → b < w1.heap.size := fun b e => (HH.out.bo.lt b (by rw [hkv]; exact e)).2
  have HSK : Hid (∀ (W : World) (lv' kv' : Value), KFr wk (.slice (some ⟨lg, 0, none⟩) s.ls.length lcap) lv' (.slice ko s.bk.length kc) kv' W4 W → Below H0 W4 W → W.cell? ⟨W3.heap.size, 3, none⟩ = some (.slice (some ⟨pg, 0, none⟩) 3 p2) ∧ W.cell? ⟨pg, 0, none⟩ = some (.int .u8 m0) ∧ W.cell? ⟨pg, 1, none⟩ = some (.string n0) ∧ W.cell? ⟨pg, 2, none⟩ = some (.slice u00 u01 u02) ∧ W.cell? ⟨pg, 3, none⟩ = some (.slice v00 v01 v02) ∧ W.cell? ⟨pg, 4, none⟩ = some (.int .u8 m1) ∧ W.cell? ⟨pg, 5, none⟩ = some (.string n1) ∧ W.cell? ⟨pg, 6, none⟩ = some (.slice u10 u11 u12) ∧ W.cell? ⟨pg, 7, none⟩ = some (.slice v10 v11 v12) ∧ W.cell? ⟨pg, 8, none⟩ = some (.int .u8 m2) ∧ W.cell? ⟨pg, 9, none⟩ = some (.string n2) ∧ W.cell? ⟨pg, 10, none⟩ = some (.slice u20 u21 u22) ∧ W.cell? ⟨pg, 11, none⟩ = some (.slice v20 v21 v22) ∧ W.cell? ⟨w1.heap.size, 5, none⟩ = some (.slice vo g.vs.length vc) ∧ W.cell? ⟨w1.heap.size, 6, none⟩ = some (.int .i64 g.cut)) := fun W lv' kv' hK hB => by
    have b1 := (hK.block w1.heap.size (by omega) hnew (fun e => by have e' : lg = w1.heap.size := Option.some.inj e; omega) (fun e => by have := hkl _ e; omega)).trans HBX4.out
    have b2 := (hK.block W3.heap.size (by omega) (by omega) (fun e => by have e' : lg = W3.heap.size := Option.some.inj e; omega) (fun e => by have := hkl _ e; omega)).trans HBB4.out
    have b3 : ∀ j, W.cell? ⟨pg, j, none⟩ = W4.cell? ⟨pg, j, none⟩ := fun j => by unfold World.cell?; rw [hB.block pg hpg]
    exact ⟨by rw [cell_of_block b2]; rfl, (b3 0).trans j00, (b3 1).trans j01, (b3 2).trans j02, (b3 3).trans j03, (b3 4).trans j10, (b3 5).trans j11, (b3 6).trans j12, (b3 7).trans j13, (b3 8).trans j20, (b3 9).trans j21, (b3 10).trans j22, (b3 11).trans j23, by rw [cell_of_block b1]; rfl, by rw [cell_of_block b1]; rfl⟩
  have hS4 := HSK.out W4 _ _ (KFr.refl _ _ _ _) (Below.refl _ _)
  have r3' : W4.cell? ⟨wk, 3, none⟩ = some (.int .i64 g.rest) := r3
  obtain ⟨s4, hs4'⟩ : ∃ s4 : Wk, s4 = { s with h := { s.h with cost := s.h.cost + 1 }, todo := g.rest } := ⟨_, rfl⟩
  have HF4 : Hid (s4.h = { s.h with cost := s.h.cost + 1 } ∧ s4.ls = s.ls ∧ s4.bk = s.bk ∧ s4.todo = g.rest) := by rw [hs4']; exact ⟨rfl, rfl, rfl, rfl⟩
  have HR4 : Hid (Run H0 W4 W4 wk hb V avs most fx (.slice (some ⟨lg, 0, none⟩) s.ls.length lcap) (.slice (some ⟨lg, 0, none⟩) s.ls.length lcap) (.slice ko s.bk.length kc) (.slice ko s.bk.length kc) s4 s4 0 0) := by
    rw [hs4']; exact Run.begin H4.out HC4.out
  have q1 : s4.ls.length ≤ 900000000 := by rw [hs4']; exact hls
  have q2 : s4.bk.length ≤ 900000000 := by rw [hs4']; exact hbl
  have q3 : g.cut ≤ s4.bk.length := by rw [hs4']; exact hcut
  have q4 : Hid (s4.bk.length = s.bk.length) := by rw [hs4']; exact (rfl : s.bk.length = s.bk.length)
  have HMM : Hid (g ∈ s4.ls) := by rw [hs4']; exact (List.mem_of_getElem? HT.out : g ∈ s.ls)
  have HC0 : Hid (cutOf s4.ls g.rest g.cut) := by rw [hs4']; exact HCR.out
  have HVV := hide hvv
  have hwk4 := HR4.out.h.lt
  clear hs4' HC4 HCR hkl r3 hpr hpr4 hq hvv hrv
  go_upto_region 23 with fail
  have HP5 := hide (push_run HR4.out.drew HMM.out (by omega) hR2 hbo.2.2.2.2.2.2.1 HVV.out g.cut g.rest HC0.out)
  go_region_held (fun w' => w'.cell? ⟨wk, 3, none⟩ = some (.int .i64 g.rest) ∧ w'.cell? ⟨W3.heap.size, 3, none⟩ = some (.slice (some ⟨pg, 0, none⟩) 3 p2) ∧ w'.cell? ⟨pg, 0, none⟩ = some (.int .u8 m0) ∧ w'.cell? ⟨pg, 1, none⟩ = some (.string n0) ∧ w'.cell? ⟨pg, 2, none⟩ = some (.slice u00 u01 u02) ∧ w'.cell? ⟨pg, 3, none⟩ = some (.slice v00 v01 v02) ∧ w'.cell? ⟨pg, 4, none⟩ = some (.int .u8 m1) ∧ w'.cell? ⟨pg, 5, none⟩ = some (.string n1) ∧ w'.cell? ⟨pg, 6, none⟩ = some (.slice u10 u11 u12) ∧ w'.cell? ⟨pg, 7, none⟩ = some (.slice v10 v11 v12) ∧ w'.cell? ⟨pg, 8, none⟩ = some (.int .u8 m2) ∧ w'.cell? ⟨pg, 9, none⟩ = some (.string n2) ∧ w'.cell? ⟨pg, 10, none⟩ = some (.slice u20 u21 u22) ∧ w'.cell? ⟨pg, 11, none⟩ = some (.slice v20 v21 v22) ∧ w'.cell? ⟨w1.heap.size, 5, none⟩ = some (.slice vo g.vs.length vc) ∧ w'.cell? ⟨w1.heap.size, 6, none⟩ = some (.int .i64 g.cut)) (first | exact ⟨r3', hS4⟩ | exact ⟨y5, hS5⟩) (first | (go_at_call 58; refine HP5.out.mono ?_; rintro e w5 ⟨rfl, lv5, s5, R5, c5, m5⟩; have HR5 := hide R5; have HC5 := hide c5; have HM5 := hide m5; have hS5 := HSK.out _ _ _ R5.K R5.B; have hw5 := R5.h.lt; have y5 : w5.cell? ⟨wk, 3, none⟩ = some (.int .i64 g.rest) := (R5.h.cs.2.2.2.1).trans (by rw [R5.todo, HF4.out.2.2.2]); have yf5 := R5.h.cs.2.2.2.2.2 3; clear R5 c5 m5))
  clear hS4
  have HO6 := hide (come_run HR5.out (by omega) s4.ls.length (HC5.out _ q3))
  go_upto_region 25 with (go_at_call 132; refine HO6.out.mono ?_; rintro e w6 ⟨rfl, kv6, s6, R6, e6⟩; have HR6 := hide R6; have HE6 := hide e6; have hS6 := HSK.out _ _ _ R6.K R6.B; have hw6 := R6.h.lt; have y6 : w6.cell? ⟨wk, 3, none⟩ = some (.int .i64 g.rest) := (R6.h.cs.2.2.2.1).trans (by rw [R6.todo, HF4.out.2.2.2]); clear R6 e6)
  clear hS5
  have HP7 := hide (push_run HR6.out.drew HMM.out (by omega) hR1 hbo.2.2.2.2.2.1 HVV.out g.cut g.rest (HR6.out.cuts _ _ HC0.out))
  go_region_held (fun w' => w'.cell? ⟨wk, 3, none⟩ = some (.int .i64 g.rest) ∧ w'.cell? ⟨W3.heap.size, 3, none⟩ = some (.slice (some ⟨pg, 0, none⟩) 3 p2) ∧ w'.cell? ⟨pg, 0, none⟩ = some (.int .u8 m0) ∧ w'.cell? ⟨pg, 1, none⟩ = some (.string n0) ∧ w'.cell? ⟨pg, 2, none⟩ = some (.slice u00 u01 u02) ∧ w'.cell? ⟨pg, 3, none⟩ = some (.slice v00 v01 v02) ∧ w'.cell? ⟨pg, 4, none⟩ = some (.int .u8 m1) ∧ w'.cell? ⟨pg, 5, none⟩ = some (.string n1) ∧ w'.cell? ⟨pg, 6, none⟩ = some (.slice u10 u11 u12) ∧ w'.cell? ⟨pg, 7, none⟩ = some (.slice v10 v11 v12) ∧ w'.cell? ⟨pg, 8, none⟩ = some (.int .u8 m2) ∧ w'.cell? ⟨pg, 9, none⟩ = some (.string n2) ∧ w'.cell? ⟨pg, 10, none⟩ = some (.slice u20 u21 u22) ∧ w'.cell? ⟨pg, 11, none⟩ = some (.slice v20 v21 v22) ∧ w'.cell? ⟨w1.heap.size, 5, none⟩ = some (.slice vo g.vs.length vc) ∧ w'.cell? ⟨w1.heap.size, 6, none⟩ = some (.int .i64 g.cut)) (first | exact ⟨y6, hS6⟩ | exact ⟨y7, hS7⟩) (first | (go_at_call 58; refine HP7.out.mono ?_; rintro e w7 ⟨rfl, lv7, s7, R7, c7, m7⟩; have HR7 := hide R7; have HC7 := hide c7; have HM7 := hide m7; have hS7 := HSK.out _ _ _ R7.K R7.B; have hw7 := R7.h.lt; have y7 : w7.cell? ⟨wk, 3, none⟩ = some (.int .i64 g.rest) := (R7.h.cs.2.2.2.1).trans (by rw [R7.todo, HF4.out.2.2.2]); have yf7 := R7.h.cs.2.2.2.2.2 3; clear R7 c7 m7))
  clear hS6
  have hqs : g.cut ≤ s.bk.length := hcut
  have HO8 := hide (cutting_run HR7.out (by omega) s.bk.length s6.ls.length (HC7.out _ hqs))
  go_upto_region 27 with (go_at_call 133; refine HO8.out.mono ?_; rintro e w8 ⟨rfl, lv8, s8, R8, c8, m8⟩; have HR8 := hide R8; have HC8 := hide c8; have HM8 := hide m8; have hS8 := HSK.out _ _ _ R8.K R8.B; have hw8 := R8.h.lt; clear R8 c8 m8)
  clear hS7
  have HP9 := hide (push_run HR8.out.drew HMM.out (by omega) hR0 hbo.2.2.2.2.1 HVV.out s.bk.length s7.ls.length (HC8.out _ (Nat.le_refl _)))
  go_region_held (fun w' => w'.cell? ⟨W3.heap.size, 3, none⟩ = some (.slice (some ⟨pg, 0, none⟩) 3 p2) ∧ w'.cell? ⟨pg, 0, none⟩ = some (.int .u8 m0) ∧ w'.cell? ⟨pg, 1, none⟩ = some (.string n0) ∧ w'.cell? ⟨pg, 2, none⟩ = some (.slice u00 u01 u02) ∧ w'.cell? ⟨pg, 3, none⟩ = some (.slice v00 v01 v02) ∧ w'.cell? ⟨pg, 4, none⟩ = some (.int .u8 m1) ∧ w'.cell? ⟨pg, 5, none⟩ = some (.string n1) ∧ w'.cell? ⟨pg, 6, none⟩ = some (.slice u10 u11 u12) ∧ w'.cell? ⟨pg, 7, none⟩ = some (.slice v10 v11 v12) ∧ w'.cell? ⟨pg, 8, none⟩ = some (.int .u8 m2) ∧ w'.cell? ⟨pg, 9, none⟩ = some (.string n2) ∧ w'.cell? ⟨pg, 10, none⟩ = some (.slice u20 u21 u22) ∧ w'.cell? ⟨pg, 11, none⟩ = some (.slice v20 v21 v22) ∧ w'.cell? ⟨w1.heap.size, 5, none⟩ = some (.slice vo g.vs.length vc) ∧ w'.cell? ⟨w1.heap.size, 6, none⟩ = some (.int .i64 g.cut)) (first | exact hS8 | exact hS9 | exact hSs _) (first | (go_at_call 58; refine HP9.out.mono ?_; rintro e w9 ⟨rfl, lv9, s9, R9, c9, m9⟩; have HR9 := hide R9; have HC9 := hide c9; have HM9 := hide m9; have hS9 := HSK.out _ _ _ R9.K R9.B; have hw9 := R9.h.lt; have y9 : w9.cell? ⟨wk, 3, none⟩ = some (.int .i64 g.rest) := (R9.h.cs.2.2.2.1).trans (by rw [R9.todo, HF4.out.2.2.2]); have yf9 := R9.h.cs.2.2.2.2.2 3; have hSs : ∀ v, (w9.setCell ⟨wk, 3, none⟩ v).cell? ⟨W3.heap.size, 3, none⟩ = some (.slice (some ⟨pg, 0, none⟩) 3 p2) ∧ (w9.setCell ⟨wk, 3, none⟩ v).cell? ⟨pg, 0, none⟩ = some (.int .u8 m0) ∧ (w9.setCell ⟨wk, 3, none⟩ v).cell? ⟨pg, 1, none⟩ = some (.string n0) ∧ (w9.setCell ⟨wk, 3, none⟩ v).cell? ⟨pg, 2, none⟩ = some (.slice u00 u01 u02) ∧ (w9.setCell ⟨wk, 3, none⟩ v).cell? ⟨pg, 3, none⟩ = some (.slice v00 v01 v02) ∧ (w9.setCell ⟨wk, 3, none⟩ v).cell? ⟨pg, 4, none⟩ = some (.int .u8 m1) ∧ (w9.setCell ⟨wk, 3, none⟩ v).cell? ⟨pg, 5, none⟩ = some (.string n1) ∧ (w9.setCell ⟨wk, 3, none⟩ v).cell? ⟨pg, 6, none⟩ = some (.slice u10 u11 u12) ∧ (w9.setCell ⟨wk, 3, none⟩ v).cell? ⟨pg, 7, none⟩ = some (.slice v10 v11 v12) ∧ (w9.setCell ⟨wk, 3, none⟩ v).cell? ⟨pg, 8, none⟩ = some (.int .u8 m2) ∧ (w9.setCell ⟨wk, 3, none⟩ v).cell? ⟨pg, 9, none⟩ = some (.string n2) ∧ (w9.setCell ⟨wk, 3, none⟩ v).cell? ⟨pg, 10, none⟩ = some (.slice u20 u21 u22) ∧ (w9.setCell ⟨wk, 3, none⟩ v).cell? ⟨pg, 11, none⟩ = some (.slice v20 v21 v22) ∧ (w9.setCell ⟨wk, 3, none⟩ v).cell? ⟨w1.heap.size, 5, none⟩ = some (.slice vo g.vs.length vc) ∧ (w9.setCell ⟨wk, 3, none⟩ v).cell? ⟨w1.heap.size, 6, none⟩ = some (.int .i64 g.cut) := fun v => HSK.out _ _ _ (R9.K.trans (KFr.setW _ 3 _ _ v _)) (R9.B.setCell (p := ⟨wk, 3, none⟩) R9.h.nw _); clear R9 c9 m9))
  all_goals
    have HF : Hid (StepZ H0 w wk hb most fx s (.returned (.bool true)) (w9.setCell ⟨wk, 3, none⟩ (.int .i64 s8.ls.length))) := HR9.out.done _ (HC9.out _ (by rw [q4.out]; exact Nat.le_refl _)) HBB.out HF4.out.1 HF4.out.2.1 HF4.out.2.2.1 (by omega) (by omega)
    clear hSs
    go_wp2_with fail
    go_ret
    exact HF.out
end
end Go.Proofs.YtodpkdajbnceoaaGreatDoor
