import Derived.Test.YtodpkdajbnceoaaGreatDoorPart25
import Derived.Test.YtodpkdajbnceoaaGreatDoorPart23
set_option linter.all false
set_option maxHeartbeats 4000000
set_option maxRecDepth 100000
namespace Go.Proofs.YtodpkdajbnceoaaGreatDoor
open Go.RowKit
theorem VarV.form {w : World} {Ok : Nat → Prop} {l : List ByteArray} {v : Value} (h : VarV w Ok l v) : ∃ ao cap, v = .slice ao l.length cap := by
  rcases h with ⟨rfl, rfl⟩ | ⟨g, cap, cur, h1, _⟩
  · exact ⟨_, _, rfl⟩
  · exact ⟨_, _, h1⟩
theorem VarV.at {w : World} {Ok : Nat → Prop} {l : List ByteArray} {v : Value} (h : VarV w Ok l v) {i : Nat} (hi : i < l.length) :
    ∃ g cap, v = .slice (some ⟨g, 0, none⟩) l.length cap ∧ l.length ≤ cap ∧ g < w.heap.size ∧ w.cell? ⟨g, i, none⟩ = some (.string l[i]) := by
  rcases h with ⟨rfl, rfl⟩ | ⟨g, cap, cur, h1, h2, h3, h4, h5, h6, h7⟩
  · simp at hi
  · refine ⟨g, cap, h1, h4, (Array.getElem?_eq_some_iff.1 h3).1, rowCell h3 h7 ?_⟩
    simp [hi]
def ToldZ (H0 : Nat) (w : World) (wk hb : Nat) (V : _root_.Fin 6 → Value) (avs : List Value) (most : Int) (lv kv : Value) (fx : Fix) (s : Wk) (e : Ending) (w' : World) : Prop :=
  ∃ (x : ByteArray) (c : Int), e = .returned (.string x) ∧ WkIn H0 w' wk hb V avs most lv kv fx { s with h := { s.h with cost := c } } ∧ Below H0 w w' ∧ s.h.cost ≤ c ∧ c ≤ max s.h.cost (5 * most + 1) + 13
section
variable {H0 : Nat} {w : World} {wk hb : Nat} {V : _root_.Fin 6 → Value} {avs : List Value} {most : Int} {lv kv : Value} {fx : Fix} {s : Wk}
theorem told_z (h : WkIn H0 w wk hb V avs most lv kv fx s) {nms : List ByteArray} (hN : VarV w (fun b => b < H0) nms fx.c) (hn : ∀ x ∈ nms, 1 ≤ x.size ∧ x.size ≤ 2000) (hn13 : nms.length ≤ 13) {g0 : Gl} (hg0 : g0 ∈ s.ls) (hvv : g0.vv = fx.b) (hvl : g0.vs.length = nms.length) (hm0 : 0 ≤ most) (hm : most ≤ 20000) (hc : s.h.cost ≤ 1000000) :
    Calls Tryz.prog 60 #[.pointer (some ⟨wk, 0, none⟩)] w fun e w' => ToldZ H0 w wk hb V avs most lv kv fx s e w' := by
  have hsz := h.size
  have hlt := h.lt
  have c0 := h.cs.1
  have hc0 := h.S.c0
  obtain ⟨ao, ncap, hnf⟩ := hN.form
  obtain ⟨w1, hw1⟩ : ∃ w1, w1 = w.alloc (.cells #[.pointer (some ⟨hb, 0, none⟩), .slice none 0 0] 130) := ⟨_, rfl⟩
  have hB1 : Below w.heap.size w w1 := by rw [hw1]; exact (Below.refl _ _).alloc (Nat.le_refl _) _
  have hbx : w1.heap[w.heap.size]? = some (.cells #[.pointer (some ⟨hb, 0, none⟩), .slice none 0 0] 130 (0, 0)) := by rw [hw1]; exact heap_alloc_new _ _
  have h1 := h.below hB1
  have hW1 : WrB w1 w.heap.size hb V avs most (.slice none 0 0) [] s.h := by
    refine ⟨h1.S, hbx, World.ownsRow_nil _ _ _ _, fun q => ?_, by simp [Value.ownBlock], fun u hu e => ?_, by simpa using hc0⟩
    · have := h.S.H.tab.H.mlt _ q; omega
    · have := avs_lt h.S hu _ e; omega
  have HB1 := hide hB1
  have HH := hide h
  have HH1 := hide h1
  have HW1 := hide hW1
  have HN := hide hN
  have HNN := hide hn
  have HVV := hide hvv
  have HVL := hide hvl
  have HG0 := hide hg0
  have hs1 : w.heap.size < w1.heap.size := (Array.getElem?_eq_some_iff.1 hbx).1
  -- the writer's steps leave the search
  have HK : Hid (∀ (sv : Value) (seen : List Nat) (c : Int) (wr : World), WrB wr w.heap.size hb V avs most sv seen { s.h with cost := c } → WFr w.heap.size hb (.slice none 0 0) sv w1 wr → WkIn H0 wr wk hb V avs most lv kv fx { s with h := { s.h with cost := c } } ∧ Below H0 w wr) := fun sv seen c wr Wr F => by
    have hF : HFr hb V V w wr := by
      refine ⟨F.os.trans HB1.out.os, F.tape.trans HB1.out.tape, F.output.trans HB1.out.output, Nat.le_trans HB1.out.size F.size, fun b q1 q2 => ?_, fun b q => .inl q⟩
      rw [F.block b (by omega) (fun e => q2 (.inl e)) (by omega) (by simp [Value.ownBlock])]
      exact HB1.out.block b q1
    exact HH.out.heaped (h' := { s.h with cost := c }) Wr.S hF (List.prefix_refl _)
  have HV : Hid (∀ (wr : World) (c : Int) (j : Nat), WkIn H0 wr wk hb V avs most lv kv fx { s with h := { s.h with cost := c } } → Below H0 w wr → (hj : j < nms.length) → ∃ ng vg vcap t, wr.cell? ⟨wk, 6, none⟩ = some (.slice (some ⟨ng, 0, none⟩) nms.length ncap) ∧ ng < wr.heap.size ∧ nms.length ≤ ncap ∧ wr.cell? ⟨ng, j, none⟩ = some (.string nms[j]) ∧ wr.cell? ⟨wk, 5, none⟩ = some (.slice (some ⟨vg, 0, none⟩) nms.length vcap) ∧ vg < wr.heap.size ∧ nms.length ≤ vcap ∧ wr.cell? ⟨vg, j, none⟩ = some (.int .i64 (t : Nat)) ∧ t < s.h.T.length) := fun wr c j hr hB hj => by
    obtain ⟨ng, cap, e1, e2, e3, e4⟩ := (HN.out.frame (w' := wr) (Ok' := fun b => b < H0) (fun b q _ => ⟨hB.block b q, q⟩)).at hj
    have hg := (hr.gl g0 HG0.out).row
    have hjv : j < g0.vs.length := by rw [HVL.out]; exact hj
    obtain ⟨vg, vcap, f1, f2, f3, f4, f5, f6⟩ := own_cell (j := j) (u := .int .i64 (g0.vs[j] : Nat)) hg.own (by simp [intsV, hjv])
    rw [hnf] at e1
    cases e1
    rw [HVL.out] at f1 f2
    refine ⟨ng, vg, vcap, g0.vs[j], ?_, e3, e2, e4, ?_, f4, f2, f6, hg.lt _ (List.getElem_mem hjv)⟩
    · rw [cell_of_block hr.cells, ← hnf]; rfl
    · rw [cell_of_block hr.cells, ← f1, HVV.out]; rfl
  have HL : Hid (∀ (wr : World) (c : Int), WkIn H0 wr wk hb V avs most lv kv fx { s with h := { s.h with cost := c } } → wr.cell? ⟨wk, 6, none⟩ = some (.slice ao nms.length ncap) ∧ wk < wr.heap.size) := fun wr c hr => ⟨by rw [cell_of_block hr.cells, ← hnf]; rfl, hr.lt⟩
  clear h h1 hB1 hbx hW1 hN hn hvv hvl hg0 hnf
  go_enter Tryz.func60, Tryz.ntmps60
  go_wp2_with fail
  rw [← hw1]
  clear hw1
  go_loopg [4, 5] (nms.length + 1) (fun g v i wr => ∃ (j : Nat) (x : ByteArray) (sv : Value) (seen : List Nat) (c : Int), v = .string x ∧ i = .int .i64 (j : Nat) ∧ j ≤ nms.length ∧ nms.length - j < g ∧ (x.size : Int) ≤ 2100 * (c - s.h.cost) + 2010 * j ∧ WrB wr w.heap.size hb V avs most sv seen { s.h with cost := c } ∧ WFr w.heap.size hb (.slice none 0 0) sv w1 wr ∧ s.h.cost ≤ c ∧ c ≤ max s.h.cost (5 * most + 1) + j)
  case atStart => exact ⟨0, _, _, [], s.h.cost, rfl, rfl, by omega, by omega, by show ((0 : Nat) : Int) ≤ _; omega, HW1.out, WFr.refl _ _ _ _, by omega, by omega⟩
  case round =>
    obtain ⟨j, x, sv, seen, c, rfl, rfl, hj, hgj, hx, h3, hf3, hlo, hhi⟩ := hrel
    obtain ⟨k3, b3⟩ := HK.out _ _ _ _ h3 hf3
    obtain ⟨y6, hl3⟩ := HL.out _ _ k3
    by_cases hlt : j < nms.length
    · obtain ⟨ng, vg, vcap, t, z6, zl, zc, zn, z5, vl, vc, zv, htl⟩ := HV.out wr c j k3 b3 hlt
      have hx1 := HNN.out nms[j] (List.getElem_mem hlt)
      obtain ⟨nm, hnm⟩ : ∃ nm, nm = nms[j] := ⟨_, rfl⟩
      rw [← hnm] at zn hx1
      have HNM := hide hnm
      clear hnm y6
      have H3 := hide h3
      have HF3 := hide hf3
      clear h3 hf3 k3 b3
      have HT : Hid (Calls Tryz.prog 66 #[.pointer (some ⟨w.heap.size, 0, none⟩), .int .i64 t, .int .i64 0] wr fun e w' => ∃ (y : ByteArray) (sv4 : Value) (seen4 : List Nat) (cA : Int), e = .returned (.string y) ∧ (y.size : Int) + 10 ≤ 2100 * (cA - c) ∧ y.size ≤ 10000000000 ∧ WrB w' w.heap.size hb V avs most sv4 seen4 { s.h with cost := cA } ∧ c + 1 ≤ cA ∧ cA ≤ max (c + 1) (5 * most + 1) ∧ WFr w.heap.size hb (.slice none 0 0) sv4 w1 w') := by
        refine (text_b (by omega) s.h (most - c).toNat (by omega) wr c sv seen t 0 H3.out (by omega) (by omega) (by omega) htl).mono ?_
        rintro e w4 ⟨y, sv4, seen4, cA, rfl, hy, h4, hc4, hc4', hf4⟩
        have hy' : (y.size : Int) + 10 ≤ 2100 * (cA - c) := hy
        have hc5 : c + 1 ≤ cA := hc4
        exact ⟨y, sv4, seen4, cA, rfl, hy', by omega, h4, hc5, by omega, HF3.out.trans hf4⟩
      have hxb : x.size ≤ 100000000000 := by omega
      have hx0 : 0 < nm.size := by omega
      obtain ⟨hn1, hn2⟩ := hx1
      go_wp2_with (go_at_call 66; refine HT.out.mono ?_; rintro e w4 ⟨y, sv4, seen4, cA, rfl, hy, hyb, h4, hc4, hc4', hf4⟩; obtain ⟨k4, b4⟩ := HK.out _ _ _ _ h4 hf4; obtain ⟨ng4, vg4, vcap4, t4, z64, zl4, zc4, zn4, z54, vl4, vc4, zv4, htl4⟩ := HV.out w4 cA j k4 b4 hlt; have hl4 := k4.lt; rw [← HNM.out] at zn4; have H4 := hide h4; have HF4 := hide hf4; clear h4 hf4 k4 b4 z54 zv4)
      all_goals
        go_roundg (gk - 1)
        case measure => omega
        case rel => first | exact ⟨j + 1, x, sv, seen, c, rfl, by go_num, by omega, by omega, by omega, H3.out, HF3.out, by omega, by omega⟩ | exact ⟨j + 1, _, sv4, seen4, cA, rfl, by go_num, by omega, by omega, by simp only [ByteArray.size_append]; show ((x.size + nm.size + 3 + y.size : Nat) : Int) ≤ _; omega, H4.out, HF4.out, by omega, by omega⟩ | exact ⟨j + 1, _, sv4, seen4, cA, rfl, by go_num, by omega, by omega, by simp only [ByteArray.size_append]; show ((x.size + 2 + nm.size + 3 + y.size : Nat) : Int) ≤ _; omega, H4.out, HF4.out, by omega, by omega⟩
    · have K3 := hide k3
      have B3 := hide b3
      clear h3 hf3 k3 b3
      go_wp2_with fail
      all_goals
        go_ret
        exact ⟨_, c, rfl, K3.out, B3.out, hlo, by omega⟩
end
theorem own_ne {w : World} {n1 m1 s1 n2 m2 s2 : Nat} {T1 T2 : TypeId} {v1 v2 : Value} {x1 x2 : List Value} (h1 : w.ownsRow n1 T1 s1 v1 m1 x1) (h2 : w.ownsRow n2 T2 s2 v2 m2 x2) (hT : T1 ≠ T2) {b : Nat} (e1 : v1.ownBlock = some b) : v2.ownBlock ≠ some b := fun e2 => by
  obtain ⟨c1, q1⟩ := own_cells h1 e1
  obtain ⟨c2, q2⟩ := own_cells h2 e2
  rw [q1] at q2
  injection q2 with q2
  injection q2 with _ q2
  exact hT q2
theorem Tryz.infoString : (Tryz.prog.info? 9).map (fun i => (i.zero, i.size, i.bytes)) = some (some (.string ByteArray.empty), 1, 16) := by kernel_rfl
theorem Tryz.underlyingStrings : Tryz.prog.underlying 48 = some (.slice 9) := by kernel_rfl
section
variable {H0 : Nat} {w w' : World} {wk hb : Nat} {V : _root_.Fin 6 → Value} {avs : List Value} {most : Int} {lv kv : Value} {fx : Fix} {s : Wk}
theorem WkIn.outs {o : Obj} {v' u : Value} (h : WkIn H0 w wk hb V avs most lv kv fx s) (hg : (w.alloc o).grownBy w' fx.x.ownBlock) (ho : w'.ownsRow H0 9 1 v' (fx.xs.length + 1) (fx.xs ++ [u])) (hn : ∀ b, v'.ownBlock = some b → fx.x.ownBlock = some b ∨ w.heap.size + 1 ≤ b) :
    WkIn H0 w' wk hb V avs most lv kv { fx with x := v', xs := fx.xs ++ [u] } s ∧ Below H0 w w' := by
  have hsz : (w.alloc o).heap.size = w.heap.size + 1 := by simp
  have hs' := hg.size
  have hold : ∀ b, b < w.heap.size → fx.x.ownBlock ≠ some b → w'.heap[b]? = w.heap[b]? := fun b hb1 hb2 => by
    rw [hg.block b (by omega) (fun e => hb2 e.symm)]; exact Below.heap_alloc _ _ _ hb1
  have hB : Below H0 w w' := ⟨hg.os, hg.tape, hg.output, by omega, fun b q => hold b (Nat.lt_of_lt_of_le q h.size) (fun e => by have := (h.ext.own.lt b e).1; omega)⟩
  refine ⟨⟨(hold wk h.lt (own_ty h.ext.own h.cells (by decide))).trans h.cells, h.S.keep (fun b q => hold b (h.S.H.tab.H.mlt b q) (fun e => h.ext.nm b e q)) (fun u hu b q => hold b (avs_lt h.S hu b q) (fun e => ?_)), own_keep h.lo (fun b e => hold b (h.lo.lt b e).2 (own_ne h.lo h.ext.own (by decide) e)), own_keep h.bo (fun b e => hold b (h.bo.lt b e).2 (own_ne h.bo h.ext.own (by decide) e)), fun g hgl => ?_, h.nw, h.nh, ⟨by simpa using ho, fun b e q => ?_, fun b e => (hold b (Array.getElem?_eq_some_iff.1 (h.ext.kept b e)).1 (own_ty h.ext.own (h.ext.kept b e) (by decide))).trans (h.ext.kept b e)⟩⟩, hB⟩
  · obtain ⟨i, hi, rfl⟩ := List.getElem_of_mem hu
    exact own_ne (h.S.H.tab.args i (by rw [← h.S.H.tab.la]; exact hi) hi).1 h.ext.own (by decide) q e
  · have q := h.gl g hgl
    exact ⟨q.shape, ⟨own_keep q.row.own (fun b e => hold b (q.row.own.lt b e).2 (own_ne q.row.own h.ext.own (by decide) e)), q.row.vn, q.row.lt, q.row.few⟩, fun hO => ⟨(q.body hO).1.frame (fun b hb _ => ⟨hB.block b hb, hb⟩), (q.body hO).2⟩⟩
  · rcases hn b e with r | r
    · exact h.ext.nm b r q
    · have := h.S.H.tab.H.mlt b q; omega
theorem WkIn.keepQ {b : Nat} {cs : Array Value} (h : WkIn H0 w wk hb V avs most lv kv fx s) (hb' : w.heap[b]? = some (.cells cs 80 (0, 0))) : WkIn H0 w wk hb V avs most lv kv { fx with q := some b, qc := cs } s :=
  ⟨h.cells, h.S, h.lo, h.bo, h.gl, h.nw, h.nh, ⟨h.ext.own, h.ext.nm, fun x e => by cases e; exact hb'⟩⟩
def AnsZ (H0 : Nat) (w : World) (fx : Fix) (e : Ending) (w' : World) : Prop :=
  ∃ (ao : Option Addr) (n cap : Nat) (er : Int) (b : Bool), e = .returned (.tuple #[.slice ao n cap, .int .i64 er, .bool b]) ∧ Below H0 w w' ∧ ∀ x, fx.q = some x → w'.heap[x]? = some (.cells fx.qc 80 (0, 0))
theorem answers_z {gb bc : Nat} {av k0 m0 ba bq vv0 : Value} {c : Cl} (h : WkIn H0 w wk hb V avs most lv kv fx s) (hA : BaseIs w H0 fx.a gb bc av k0 m0 ba bq vv0 c) (hch : Chain s) (hbig : Big s) (hm0 : 0 ≤ most) (hm : most ≤ 20000) (hc : s.h.cost ≤ most) (hx : fx.x = .slice none 0 0) (hxs : fx.xs = [])
    {nms : List ByteArray} (hN : VarV w (fun b => b < H0) nms fx.c) (hn : ∀ x ∈ nms, 1 ≤ x.size ∧ x.size ≤ 2000) (hn13 : nms.length ≤ 13) {g0 : Gl} (hg0 : g0 ∈ s.ls) (hvv : g0.vv = fx.b) (hvl : g0.vs.length = nms.length) (n : Nat) (hn1 : n ≤ 1000) :
    Calls Tryz.prog 28 #[.pointer (some ⟨wk, 0, none⟩), .int .i64 n] w fun e w' => AnsZ H0 w fx e w' := by
  obtain ⟨i0, hi, hz0, hz1, hz2⟩ := info_parts Tryz.infoString
  have HH := hide h
  have HA := hide hA
  have HCH := hide hch
  have HBG := hide hbig
  have HN := hide hN
  have HNN := hide hn
  have HG0 := hide hg0
  have HVV := hide hvv
  have HVL := hide hvl
  have HX : Hid (fx.x = .slice none 0 0 ∧ fx.xs = []) := ⟨hx, hxs⟩
  clear h hA hch hbig hN hn hg0 hvv hvl hx hxs
  go_enter Tryz.func28, Tryz.ntmps28
  go_wp2_with fail
  go_loopg [7, 8] (n + 1) (fun g v i wr => ∃ (j : Nat) (s1 : Wk) (V1 : _root_.Fin 6 → Value) (avs1 : List Value) (lv1 kv1 : Value) (xs : List Value), i = .int .i64 (j : Nat) ∧ j ≤ n ∧ n - j < g ∧ WkIn H0 wr wk hb V1 avs1 most lv1 kv1 { fx with x := v, xs := xs } s1 ∧ xs.length = j ∧ Below H0 w wr ∧ Chain s1 ∧ Big s1 ∧ s1.h.cost ≤ most ∧ g0 ∈ s1.ls)
  case atStart =>
    have e : ({ fx with x := .slice none 0 0, xs := [] } : Fix) = fx := by
      obtain ⟨e1, e2⟩ := HX.out
      cases fx; simp only at e1 e2; subst e1 e2; rfl
    exact ⟨0, s, V, avs, lv, kv, [], rfl, by omega, by omega, by rw [e]; exact HH.out, rfl, Below.refl _ _, HCH.out, HBG.out, hc, HG0.out⟩
  case round =>
    obtain ⟨j, s1, V1, avs1, lv1, kv1, xs, rfl, hj, hgj, h1, hxl, b1, C1, G1, hc1, hg1⟩ := hrel
    obtain ⟨xo, xc, hxf⟩ := row_form h1.ext.own
    have hxf' : u7 = .slice xo xs.length xc := hxf
    subst hxf'
    have hzz := h1.S.c0
    have HON : Hid (∀ f : Bool, Calls Tryz.prog 59 #[.pointer (some ⟨wk, 0, none⟩), .bool f] wr fun e w' => OnZ H0 wr wk hb most _ s1 e w') := fun f => on_z h1 (HA.out.keep HH.out.size b1) C1 G1 hm0 hm (by omega) f
    have H1 := hide h1
    have HB1 := hide b1
    have HXL := hide hxl
    have HG1 := hide hg1
    clear h1 b1 C1 G1 hxf hxl hg1
    have HAN : Hid (∀ (ao : Option Addr) (m cap : Nat) (er : Int) (b : Bool) (w' : World), Below H0 wr w' → (∀ x, fx.q = some x → w'.heap[x]? = some (.cells fx.qc 80 (0, 0))) → AnsZ H0 w fx (.returned (.tuple #[.slice ao m cap, .int .i64 er, .bool b])) w') := fun ao m cap er b w' hB hq => ⟨_, _, _, _, _, rfl, HB1.out.trans hB, hq⟩
    by_cases hlt : j < n
    · go_upto_region 6 with (go_at_call 59; refine (HON.out _).mono ?_; rintro e w2 ⟨r, s2, V2, avs2, lv2, kv2, rfl, h2, b2, C2, G2, lo2, hi2, T2, mem2⟩; have c0 := h2.cs.1; have d6 := h2.S.H.tab.H.c 6; have d7 := h2.S.H.tab.H.c 7; have d8 := h2.S.H.tab.H.c 8; have hhb := h2.S.H.tab.H.lt_size; have hlw := h2.lt; have hzc := h2.S.c0)
      have d6' : w2.cell? ⟨hb, 6, none⟩ = some (.int .i64 s2.h.cost) := d6
      have d7' : w2.cell? ⟨hb, 7, none⟩ = some (.int .i64 most) := d7
      have d8' : w2.cell? ⟨hb, 8, none⟩ = some (.int .i64 s2.h.err) := d8
      have H2 := hide h2
      have HB2 := hide b2
      have HC2 := hide C2
      have HG2 := hide G2
      have HM2 := hide (mem2 g0 HG1.out)
      clear d6 d7 d8 h2 b2 C2 G2 mem2
      have HDN : Hid (∀ (W : World) (k : Nat), Below H0 wr W → Below H0 wr (W.drewN k)) := fun W k q => q.trans (below_drewN (Below.refl _ _) k)
      by_cases hsp : most < s2.h.cost
      · have hd : decide (most < s2.h.cost) = true := by simpa using hsp
        go_quiet (fail)
        go_wp2_with fail
        go_ret3
        exact HAN.out _ _ _ _ _ _ (HDN.out _ _ HB2.out) H2.out.ext.kept
      · have hd : decide (most < s2.h.cost) = false := by simpa using hsp
        go_quiet (fail)
        by_cases her : s2.h.err = 0
        · have her' : (s2.h.err == 0) = true := by simpa using her
          cases r with
          | false =>
            go_wp2_with fail
            go_ret3
            exact HAN.out _ _ _ _ _ _ (HDN.out _ _ HB2.out) H2.out.ext.kept
          | true =>
            have h3 := H2.out.below (below_drewN (Below.refl _ _) nq)
            have HTO := hide (told_z h3 (HN.out.frame (w' := w2.drewN nq) (Ok' := fun b => b < H0) (fun b q _ => ⟨((HDN.out _ nq HB2.out).block b q).trans (HB1.out.block b q), q⟩)) HNN.out hn13 HM2.out HVV.out HVL.out hm0 hm (by omega))
            clear h3 her
            go_wp2_with (go_at_call 60; refine HTO.out.mono ?_; rintro e w4 ⟨x, c4, rfl, h4, b4, lo4, hi4⟩; have e0 := h4.cs.1; have f6 := h4.S.H.tab.H.c 6; have f7 := h4.S.H.tab.H.c 7; have hhb4 := h4.S.H.tab.H.lt_size; have hlw4 := h4.lt)
            have f6' : w4.cell? ⟨hb, 6, none⟩ = some (.int .i64 c4) := f6
            have f7' : w4.cell? ⟨hb, 7, none⟩ = some (.int .i64 most) := f7
            have H4 := hide h4
            have HB4 : Hid (Below H0 wr w4) := (HDN.out _ nq HB2.out).trans b4
            clear f6 f7 h4 b4
            by_cases hsp4 : most < c4
            · have hd4 : decide (most < c4) = true := by simpa using hsp4
              go_quiet (fail)
              go_wp2_with fail
              go_ret3
              exact HAN.out _ _ _ _ _ _ (HDN.out _ _ HB4.out) H4.out.ext.kept
            · have hd4 : decide (most < c4) = false := by simpa using hsp4
              go_quiet (fail)
              have h5 := H4.out.below (below_drewN (Below.refl _ _) nq)
              have HB5 : Hid (Below H0 wr (w4.drewN nq)) := HDN.out _ _ HB4.out
              generalize w4.drewN nq = w5 at *
              have how : w5.ownsRow H0 9 1 (.slice xo xs.length xc) xs.length xs := h5.ext.own
              have H5 := hide h5
              have hsz5 := h5.size
              have hxj : xs.length ≤ 1000 := by rw [HXL.out]; omega
              have HBG4 : Hid (Big { s2 with h := { s2.h with cost := c4 } }) := by
                obtain ⟨g1, g2, g3⟩ := HG2.out
                exact ⟨by show (s2.ls.length : Int) ≤ 1 + 3001 * c4; omega, by show (s2.bk.length : Int) ≤ c4; omega, by show (s2.h.T.length : Int) ≤ 13 + 2002 * c4; omega⟩
              clear h5
              go_wp2_with (first | (at_builtin; (refine wpList_append_own2 rfl _ _ 48 rfl H0 9 i0 _ 1 16 Tryz.underlyingStrings hi hz0 hz1 hz2 rfl (by decide) _ _ _ rfl (how.alloc _) (⟨w5.heap.size, 0, none⟩ : Addr) 1 1 [.string x] rfl rfl ?_ ?_ ?_ ?_ ?_ ?_)))
              · first | rfl | exact cell_one_new _ _ _
              · unfold maxLen; omega
              · omega
              · first | omega | (simp; omega)
              intro v' w6 ho hgr hnw
              have HP := hide (H5.out.outs (v' := v') (u := .string x) hgr ho (by simpa using hnw))
              obtain ⟨vo, vc, hvf⟩ := row_form ho
              clear ho hgr hnw how
              subst hvf
              go_wp2_with fail
              go_roundg (gk - 1)
              case measure => omega
              case rel => exact ⟨j + 1, _, V2, avs2, lv2, kv2, xs ++ [.string x], by go_num, by omega, by omega, HP.out.1, by rw [List.length_append, HXL.out]; rfl, HB1.out.trans (HB5.out.trans HP.out.2), HC2.out.heap _, HBG4.out, by show c4 ≤ most; omega, HM2.out⟩
        · have her' : (s2.h.err == 0) = false := by simpa using her
          go_wp2_with fail
          go_quiet (fail)
          go_wp2_with fail
          go_ret3
          exact HAN.out _ _ _ _ _ _ (HDN.out _ _ (HDN.out _ _ HB2.out)) H2.out.ext.kept
    · go_wp2_with fail
      go_ret3
      exact HAN.out _ _ _ _ _ _ (Below.refl _ _) H1.out.ext.kept
end
theorem sound_new {w : World} {hb : Nat} {most : Int} (h : Tab w hb V0 [] [] [] [] 0 most 0) : Sound hb most w V0 [] ⟨[], [], 0, 0⟩ :=
  ⟨⟨h, trivial, (fun x y e => by cases e), fun t ht => by simp at ht, by simp⟩, fun t ht => by simp at ht, fun t ht => by simp at ht, Int.le_refl _⟩
def AskZ (w : World) (most : Int) (base : Value) (v : Value) (n : Nat) (e : Ending) (w' : World) : Prop :=
  ∃ (wk hb : Nat) (V : _root_.Fin 6 → Value) (avs : List Value) (lv kv : Value) (fx : Fix) (s : Wk) (g0 : Gl), e = .returned (.pointer (some ⟨wk, 0, none⟩)) ∧ WkIn w.heap.size w' wk hb V avs most lv kv fx s ∧ Below w.heap.size w w' ∧ Chain s ∧ Big s ∧ s.h.cost = 0 ∧ fx.a = base ∧ fx.c = v ∧ fx.x = .slice none 0 0 ∧ fx.xs = [] ∧ g0 ∈ s.ls ∧ g0.vv = fx.b ∧ g0.vs.length = n
theorem ask_z (w : World) (most : Int) (b0' : Option Addr) (b1' b2' : Nat) (b : Bd) (vars : List ByteArray) (k : Int) (m : ByteArray) (b0 p0 v0 : Option Addr) (b1 b2 p1 p2 v1 v2 : Nat)
    (hb : BRep w (fun x => x < w.heap.size) b [.int .u8 k, .string m, .slice b0 b1 b2, .slice p0 p1 p2]) (hv : VarV w (fun x => x < w.heap.size) vars (.slice v0 v1 v2)) (hl : vars.length ≤ 12) (hbo : bdOk vars.length b) :
    Calls Tryz.prog 27 #[.slice b0' b1' b2', .agg #[.string ByteArray.empty, .slice none 0 0, .int .u8 k, .string m, .slice b0 b1 b2, .slice p0 p1 p2, .slice v0 v1 v2], .int .i64 most] w fun e w' => AskZ w most (.slice b0' b1' b2') (.slice v0 v1 v2) vars.length e w' := by
  have hv1 : v1 = vars.length := by
    obtain ⟨_, _, e⟩ := hv.form
    injection e
  subst hv1
  obtain ⟨w1, hw1⟩ : ∃ w1, w1 = w.alloc (.cells #[.string ByteArray.empty, .slice none 0 0, .int .u8 k, .string m, .slice b0 b1 b2, .slice p0 p1 p2, .slice v0 vars.length v2] 50) := ⟨_, rfl⟩
  have hB1 : Below w.heap.size w w1 := by rw [hw1]; exact (Below.refl _ _).alloc (Nat.le_refl _) _
  have hx1 : w1.heap[w.heap.size]? = some (.cells #[.string ByteArray.empty, .slice none 0 0, .int .u8 k, .string m, .slice b0 b1 b2, .slice p0 p1 p2, .slice v0 vars.length v2] 50 (0, 0)) := by rw [hw1]; exact heap_alloc_new _ _
  have hs1 : w.heap.size < w1.heap.size := (Array.getElem?_eq_some_iff.1 hx1).1
  have HB1 := hide hB1
  have HX1 := hide hx1
  have HBR := hide hb
  have HBO := hide hbo
  clear hb hv hbo hB1 hx1
  go_enter Tryz.func27, Tryz.ntmps27
  go_wp2_with fail
  rw [← hw1]
  clear hw1
  refine (new_any w1 most).mono ?_
  rintro e w2 ⟨rfl, hB2, hT2⟩
  have hx2 := (hB2.block w.heap.size hs1).trans HX1.out
  have hs2 := hB2.size
  have hlt2 := hT2.H.lt_size
  obtain ⟨a0, a1, a2, a3, a4, a5, a6, af⟩ := box7 hx2
  obtain ⟨w3, hw3⟩ : ∃ w3, w3 = w2.alloc (.cells #[.pointer (some ⟨w1.heap.size, 0, none⟩), .slice b0' b1' b2', .slice none 0 0, .int .i64 0, .slice none 0 0, .slice none 0 0, .slice v0 vars.length v2, .int .i64 0] 111) := ⟨_, rfl⟩
  have hB3 : Below w2.heap.size w2 w3 := by rw [hw3]; exact (Below.refl _ _).alloc (Nat.le_refl _) _
  have hx3 : w3.heap[w2.heap.size]? = some (.cells #[.pointer (some ⟨w1.heap.size, 0, none⟩), .slice b0' b1' b2', .slice none 0 0, .int .i64 0, .slice none 0 0, .slice none 0 0, .slice v0 vars.length v2, .int .i64 0] 111 (0, 0)) := by rw [hw3]; exact heap_alloc_new _ _
  have hs3 : w2.heap.size < w3.heap.size := (Array.getElem?_eq_some_iff.1 hx3).1
  have hS3 : Sound w1.heap.size most w3 V0 [] ⟨[], [], 0, 0⟩ := (sound_new hT2).below hB3
  have hbx3 := (hB3.block w.heap.size (by omega)).trans hx2
  have c6 : w3.cell? ⟨w.heap.size, 6, none⟩ = some (.slice v0 vars.length v2) := by rw [cell_of_block hbx3]; rfl
  have HFA := hide (freshB_any hS3.tabB vars.length (by omega) (by simp))
  have HS3 := hide hS3
  have HKW : Hid (∀ (W : World) (v : Value) (V4 : _root_.Fin 6 → Value), FreshB [] 0 w3 w1.heap.size V0 [] [] 0 most vars.length v W V4 → W.cell? ⟨w2.heap.size, 5, none⟩ = some (.slice none 0 0) ∧ W.frozen? ⟨w2.heap.size, 5, none⟩ = false ∧ w2.heap.size < W.heap.size) := fun W v V4 F => by
    have e : W.heap[w2.heap.size]? = _ := (F.fr.block w2.heap.size hs3 (fun q => by
      rcases q with e | ⟨i, e⟩
      · omega
      · simp [V0, Value.ownBlock] at e)).trans hx3
    exact ⟨by rw [cell_of_block e]; rfl, by simp [World.frozen?, e], (Array.getElem?_eq_some_iff.1 e).1⟩
  have HX3 := hide hx3
  have HBX3 := hide hbx3
  have HB2 := hide hB2
  have HB3 := hide hB3
  clear hB2 hT2 hx2 hB3 hx3 hS3 hbx3
  go_upto_region 3 with fail
  rw [← hw3]
  clear hw3
  go_upto_region 4 with (go_at_call 57; refine HFA.out.mono ?_; rintro e w4 ⟨v, V4, rfl, F⟩; obtain ⟨vo, vc, hvf⟩ := row_form F.own; subst hvf; have HWK := HKW.out _ _ _ F; obtain ⟨y5, yf5, yl5⟩ := HWK)
  have S4 := F.tb.sound HS3.out (List.nil_prefix) (replicate_ok ⟨fun t ht => by simp at ht, fun t ht => by simp at ht, fun t ht => by simp at ht⟩ vars.length) (by simp; omega)
  have hnm0 : ∀ b, b < w3.heap.size → b ≠ w1.heap.size → ¬ HM w1.heap.size V0 b := fun b _ q1 q => by
    rcases q with e | ⟨i, e⟩
    · exact q1 e
    · simp [V0, Value.ownBlock] at e
  have hx4 : w4.heap[w2.heap.size]? = _ := (F.fr.block w2.heap.size hs3 (hnm0 _ hs3 (by omega))).trans HX3.out
  have hbx4 : w4.heap[w.heap.size]? = _ := (F.fr.block w.heap.size (by omega) (hnm0 _ (by omega) (by omega))).trans HBX3.out
  have hnw : ¬ HM w1.heap.size V4 w2.heap.size := HM_not S4.H.tab.H hx4 (.inr (.inr rfl))
  obtain ⟨w5, hw5⟩ : ∃ w5, w5 = w4.setCell ⟨w2.heap.size, 5, none⟩ (.slice vo vars.length vc) := ⟨_, rfl⟩
  rw [← hw5]
  have hne : ∀ b, b ≠ w2.heap.size → w5.heap[b]? = w4.heap[b]? := fun b q => by rw [hw5]; exact Below.heap_setCell _ _ _ _ q
  have hx5 : w5.heap[w2.heap.size]? = some (.cells #[.pointer (some ⟨w1.heap.size, 0, none⟩), .slice b0' b1' b2', .slice none 0 0, .int .i64 0, .slice none 0 0, .slice vo vars.length vc, .slice v0 vars.length v2, .int .i64 0] 111 (0, 0)) := by rw [hw5, heap_setCell_same hx4]; rfl
  have hbx5 : w5.heap[w.heap.size]? = _ := (hne _ (by omega)).trans hbx4
  have hB5 : Below w.heap.size w w5 := by
    have b3 : Below w.heap.size w w3 := HB1.out.trans ((HB2.out.mono (by omega)).trans (HB3.out.mono (by omega)))
    have b4 : Below w.heap.size w3 w4 := ⟨F.fr.os, F.fr.tape, F.fr.output, F.fr.size, fun b q => F.fr.block b (by omega) (hnm0 b (by omega) (by omega))⟩
    rw [hw5]
    exact (b3.trans b4).setCell (p := ⟨w2.heap.size, 5, none⟩) (by show w.heap.size ≤ w2.heap.size; omega) _
  have hvb : ∀ x, (Value.slice vo vars.length vc).ownBlock = some x → x ≠ w2.heap.size := fun x e => by have := (F.own.lt x e).1; omega
  have S5 : Sound w1.heap.size most w5 V4 ([] ++ List.replicate vars.length (.slice none 0 0)) { T := [] ++ List.replicate vars.length varNd, bs := [], cost := 0, err := 0 } := S4.keep (fun x q => hne x (fun e => hnw (e ▸ q))) (fun u hu x q => by
    rw [List.nil_append] at hu
    rw [List.eq_of_mem_replicate hu] at q
    cases q)
  have hO5 : w5.ownsRow 0 3 1 (.slice vo vars.length vc) vars.length (intsV ((List.range vars.length).map (([] : List Nd).length + ·))) := own_keep (ownsRow_base F.own (Nat.zero_le _)) (fun x e => hne x (hvb x e))
  have hK5 : WkIn w.heap.size w5 w2.heap.size w1.heap.size V4 ([] ++ List.replicate vars.length (.slice none 0 0)) most (.slice none 0 0) (.slice none 0 0) ⟨.slice b0' b1' b2', .slice vo vars.length vc, .slice v0 vars.length v2, .slice none 0 0, [], none, #[]⟩ ⟨{ T := [] ++ List.replicate vars.length varNd, bs := [], cost := 0, err := 0 }, [], 0, []⟩ := by
    refine ⟨hx5, S5, World.ownsRow_nil _ _ _ _, World.ownsRow_nil _ _ _ _, (fun g hg => by cases hg), by show w.heap.size ≤ w2.heap.size; omega, fun x q => ?_, ⟨World.ownsRow_nil _ _ _ _, (fun x e => by cases e), (fun x e => by cases e)⟩⟩
    rcases F.fr.mnew x q with r | r
    · rcases r with e | ⟨i, e⟩
      · omega
      · simp [V0, Value.ownBlock] at e
    · omega
  have HPU := hide (push_z (hK5.below (w' := w5.drew) (Below.refl _ _).drew) (by simp) b [.int .u8 k, .string m, .slice b0 b1 b2, .slice p0 p1 p2] (HBR.out.move (w' := w5.drew) (fun x q => hB5.block x q)) (.slice vo vars.length vc) ((List.range vars.length).map (([] : List Nd).length + ·)) ⟨by rw [List.length_map, List.length_range]; exact own_below hO5 (Below.refl _ _).drew, F.vn, fun a ha => by
      obtain ⟨i, hi, rfl⟩ := List.mem_map.1 ha
      have := List.mem_range.1 hi
      simp; omega, by rw [List.length_map, List.length_range]; omega⟩ (by rw [List.length_map, List.length_range]; exact HBO.out) 0 (-1))
  have hS5 : w5.cell? ⟨w.heap.size, 2, none⟩ = some (.int .u8 k) ∧ w5.cell? ⟨w.heap.size, 3, none⟩ = some (.string m) ∧ w5.cell? ⟨w.heap.size, 4, none⟩ = some (.slice b0 b1 b2) ∧ w5.cell? ⟨w.heap.size, 5, none⟩ = some (.slice p0 p1 p2) ∧ w5.cell? ⟨w2.heap.size, 5, none⟩ = some (.slice vo vars.length vc) := ⟨by rw [cell_of_block hbx5]; rfl, by rw [cell_of_block hbx5]; rfl, by rw [cell_of_block hbx5]; rfl, by rw [cell_of_block hbx5]; rfl, by rw [cell_of_block hx5]; rfl⟩
  have HBX5 := hide hbx5
  have HB5 := hide hB5
  have hl5 := hK5.lt
  have hsl5 : w.heap.size < w5.heap.size := (Array.getElem?_eq_some_iff.1 hbx5).1
  have HSK : Hid (∀ (W : World) (lv' : Value) (s' : Wk), WkIn w.heap.size W w2.heap.size w1.heap.size V4 ([] ++ List.replicate vars.length (.slice none 0 0)) most lv' (.slice none 0 0) ⟨.slice b0' b1' b2', .slice vo vars.length vc, .slice v0 vars.length v2, .slice none 0 0, [], none, #[]⟩ s' → KFr w2.heap.size (.slice none 0 0) lv' (.slice none 0 0) (.slice none 0 0) w5.drew W → W.cell? ⟨w.heap.size, 2, none⟩ = some (.int .u8 k) ∧ W.cell? ⟨w.heap.size, 3, none⟩ = some (.string m) ∧ W.cell? ⟨w.heap.size, 4, none⟩ = some (.slice b0 b1 b2) ∧ W.cell? ⟨w.heap.size, 5, none⟩ = some (.slice p0 p1 p2) ∧ W.cell? ⟨w2.heap.size, 5, none⟩ = some (.slice vo vars.length vc)) := fun W lv' s' hW hK => by
    have e1 := (hK.block w.heap.size (show w.heap.size < w5.drew.heap.size from hsl5) (by omega) (by simp [Value.ownBlock]) (by simp [Value.ownBlock])).trans HBX5.out
    exact ⟨by rw [cell_of_block e1]; rfl, by rw [cell_of_block e1]; rfl, by rw [cell_of_block e1]; rfl, by rw [cell_of_block e1]; rfl, by rw [cell_of_block hW.cells]; rfl⟩
  clear hw5 F S4 S5 hx4 hbx4 hx5 hbx5 hB5 hO5 hK5 hne y5 yf5 yl5 hvb hnw hnm0
  go_region_held (fun w' => w'.cell? ⟨w.heap.size, 2, none⟩ = some (.int .u8 k) ∧ w'.cell? ⟨w.heap.size, 3, none⟩ = some (.string m) ∧ w'.cell? ⟨w.heap.size, 4, none⟩ = some (.slice b0 b1 b2) ∧ w'.cell? ⟨w.heap.size, 5, none⟩ = some (.slice p0 p1 p2) ∧ w'.cell? ⟨w2.heap.size, 5, none⟩ = some (.slice vo vars.length vc)) (first | exact hS5 | exact hS6 | exact hS7 _) (first | (go_at_call 58; refine HPU.out.mono ?_; rintro e w6 ⟨rfl, lv6, h6, b6, k6⟩; have hS6 := HSK.out _ _ _ h6 k6; have hS7 : ∀ t : Int, (w6.setCell ⟨w2.heap.size, 3, none⟩ (.int .i64 t)).cell? ⟨w.heap.size, 2, none⟩ = some (.int .u8 k) ∧ (w6.setCell ⟨w2.heap.size, 3, none⟩ (.int .i64 t)).cell? ⟨w.heap.size, 3, none⟩ = some (.string m) ∧ (w6.setCell ⟨w2.heap.size, 3, none⟩ (.int .i64 t)).cell? ⟨w.heap.size, 4, none⟩ = some (.slice b0 b1 b2) ∧ (w6.setCell ⟨w2.heap.size, 3, none⟩ (.int .i64 t)).cell? ⟨w.heap.size, 5, none⟩ = some (.slice p0 p1 p2) ∧ (w6.setCell ⟨w2.heap.size, 3, none⟩ (.int .i64 t)).cell? ⟨w2.heap.size, 5, none⟩ = some (.slice vo vars.length vc) := fun t => HSK.out _ _ _ (h6.todoS t).1 (k6.trans (KFr.setW _ 3 _ _ _ _)); have hl6 := h6.lt; have z6 := h6.cs.2.2.2.1; have zf6 := h6.cs.2.2.2.2.2 3; have H6 := hide h6; have HB6 := hide b6; clear h6 b6 k6))
  all_goals
    have HF : Hid (AskZ w most (.slice b0' b1' b2') (.slice v0 vars.length v2) vars.length (.returned (.pointer (some ⟨w2.heap.size, 0, none⟩))) (w6.setCell ⟨w2.heap.size, 3, none⟩ (.int .i64 0))) := by
      obtain ⟨h7, b7⟩ := H6.out.todoS 0
      refine ⟨w2.heap.size, w1.heap.size, V4, _, lv6, _, _, _, _, rfl, h7, HB5.out.trans (((Below.refl _ _).drew).trans (HB6.out.trans b7)), ⟨fun g hg => ?_, ?_, fun n a ha => by simp at ha⟩, ⟨?_, ?_, ?_⟩, rfl, rfl, rfl, rfl, rfl, List.mem_singleton.2 rfl, rfl, ?_⟩
      · rw [List.mem_singleton.1 hg]; exact .inl rfl
      · exact .inr ⟨0, _, rfl, rfl, Nat.le_refl _⟩
      · show ((1 : Nat) : Int) ≤ 1 + 3001 * 0; omega
      · show ((0 : Nat) : Int) ≤ 0; omega
      · show ((([] ++ List.replicate vars.length varNd : List Nd).length : Nat) : Int) ≤ 13 + 2002 * 0
        simp; omega
      · show ((List.range vars.length).map _).length = _
        rw [List.length_map, List.length_range]
    clear hS7 hS6
    go_wp2_with fail
    go_ret
    exact HF.out
end Go.Proofs.YtodpkdajbnceoaaGreatDoor
