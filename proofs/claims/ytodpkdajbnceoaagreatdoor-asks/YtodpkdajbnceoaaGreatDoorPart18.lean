import Derived.Test.YtodpkdajbnceoaaGreatDoorPart17
set_option linter.all false
set_option maxHeartbeats 4000000
set_option maxRecDepth 100000
namespace Go.Proofs.YtodpkdajbnceoaaGreatDoor
open Go.RowKit
structure BaseIs (w : World) (H0 : Nat) (v : Value) (g cap : Nat) (av k m ba bq vv : Value) (c : Cl) : Prop where
  eq : v = .slice (some ⟨g, 0, none⟩) 1 cap
  lt : g < w.heap.size
  c0 : w.cell? ⟨g, 0, none⟩ = some (.string (B [97]))
  c1 : w.cell? ⟨g, 1, none⟩ = some av
  c2 : w.cell? ⟨g, 2, none⟩ = some k
  c3 : w.cell? ⟨g, 3, none⟩ = some m
  c4 : w.cell? ⟨g, 4, none⟩ = some ba
  c5 : w.cell? ⟨g, 5, none⟩ = some bq
  c6 : w.cell? ⟨g, 6, none⟩ = some vv
  a0 : ∃ a z, av = .slice a 0 z
  v0 : ∃ a z, vv = .slice a 0 z
  body : BRep w (fun b => b < H0) c.body [k, m, ba, bq]
  ok : bdOk 0 c.body
  h0 : g < H0
section
variable {H0 : Nat} {w : World} {wk hb : Nat} {V : _root_.Fin 6 → Value} {avs : List Value} {most : Int} {lv kv : Value} {fx : Fix} {s : Wk} {g cap : Nat} {av k m ba bq vv : Value} {c : Cl}
theorem BaseIs.keep {w' : World} {v : Value} (h : BaseIs w H0 v g cap av k m ba bq vv c) (hs : H0 ≤ w.heap.size) (hB : Below H0 w w') : BaseIs w' H0 v g cap av k m ba bq vv c := by
  have hc : ∀ j, w'.cell? ⟨g, j, none⟩ = w.cell? ⟨g, j, none⟩ := fun j => by unfold World.cell?; rw [hB.block g h.h0]
  exact ⟨h.eq, Nat.lt_of_lt_of_le h.lt hB.size, (hc 0).trans h.c0, (hc 1).trans h.c1, (hc 2).trans h.c2, (hc 3).trans h.c3, (hc 4).trans h.c4, (hc 5).trans h.c5, (hc 6).trans h.c6, h.a0, h.v0, h.body.frame (fun b q _ => ⟨hB.block b q, q⟩), h.ok, h.h0⟩
theorem next_z (h : WkIn H0 w wk hb V avs most lv kv fx s) (hA : BaseIs w H0 fx.a g cap av k m ba bq vv c) (nm : ByteArray) (n : Nat) (j : Nat) (hj : j ≤ 1) :
    Calls Tryz.prog 135 #[.pointer (some ⟨wk, 0, none⟩), .string nm, .int .i64 n, .int .i64 j] w fun e w' => e = .returned (.int .i64 (if j = 0 ∧ nm = B [97] ∧ n = 0 then 0 else -1)) ∧ w' = w := by
  obtain ⟨c0, c1, c2, c3, c4, cf⟩ := h.cs
  have hlt := h.lt
  rw [hA.eq] at c1
  obtain ⟨aa, az, hav⟩ := hA.a0
  have b0 := hA.c0
  have b1 := hA.c1
  rw [hav] at b1
  have hgl := hA.lt
  obtain ⟨r, hr⟩ : ∃ r : Int, r = if j = 0 ∧ nm = B [97] ∧ n = 0 then 0 else -1 := ⟨_, rfl⟩
  rw [← hr]
  have HR := hide hr
  clear h hA cf hr
  go_enter Tryz.func135, Tryz.ntmps135
  go_wp2_with fail
  go_loopg [3] 2 (fun gk v wr => wr = w ∧ ∃ i : Nat, v = .int .i64 (i : Nat) ∧ i ≤ 1 ∧ 2 ≤ gk + i ∧ j ≤ i ∧ (i ≠ j → ¬ (j = 0 ∧ nm = B [97] ∧ n = 0)))
  case atStart => exact ⟨rfl, j, rfl, hj, by omega, Nat.le_refl _, fun e => absurd rfl e⟩
  case round =>
    obtain ⟨rfl, i, rfl, hi1, hgk, hji, hno⟩ := hrel
    by_cases hi0 : i = 0
    · have hj0 : j = 0 := by omega
      subst hi0 hj0
      have HNO := hide hno
      clear hno hj hji hi1
      by_cases hn : nm = B [97]
      · have hb : ((B [97]).toList == nm.toList) = true := by rw [hn]; simp
        by_cases hn0 : n = 0
        · have hz : ((0 : Int) == (n : Int)) = true := by rw [hn0]; rfl
          have HN := hide hn
          have HN0 := hide hn0
          clear hn hn0
          go_wp2_with fail
          go_ret
          refine ⟨?_, rfl⟩
          have e : r = 0 := by rw [HR.out]; simp [HN.out, HN0.out]
          rw [e]; rfl
        · have hz : ((0 : Int) == (n : Int)) = false := by
            have : ¬ (0 : Int) = (n : Int) := by omega
            simpa using this
          have HN0 := hide hn0
          have hn1 : ¬ (n : Int) = 0 := by omega
          have hn2 : ¬ (0 : Int) = (n : Int) := by omega
          have hn3 : ((n : Int) == 0) = false := by simpa using hn1
          clear hn
          go_wp2_with fail
          go_roundg (gk - 1)
          case measure => omega
          case rel => exact ⟨rfl, 1, by go_num, by omega, by omega, by omega, fun _ q => HN0.out q.2.2⟩
      · have hb : ((B [97]).toList == nm.toList) = false := by
          have : ¬ (B [97]).toList = nm.toList := fun e => hn (BA_ext (by rw [e]))
          simpa using this
        have HN := hide hn
        clear hn
        go_wp2_with fail
        go_roundg (gk - 1)
        case measure => omega
        case rel => exact ⟨rfl, 1, by go_num, by omega, by omega, by omega, fun _ q => HN.out q.2.1⟩
    · have hi : i = 1 := by omega
      subst hi
      have HNO := hide hno
      have hneg : ¬ (j = 0 ∧ nm = B [97] ∧ n = 0) := fun q => by
        by_cases e : (1 : Nat) = j
        · omega
        · exact hno e q
      have HNEG := hide hneg
      clear hno hneg
      go_wp2_with fail
      go_ret
      exact ⟨by rw [HR.out, if_neg HNEG.out]; rfl, rfl⟩
end
section
variable {H0 : Nat} {w w' : World} {wk hb : Nat} {V V' : _root_.Fin 6 → Value} {avs avs' : List Value} {most : Int} {lv kv : Value} {fx : Fix} {s : Wk} {h' : Hp}
theorem WkIn.heaped (h : WkIn H0 w wk hb V avs most lv kv fx s) (S' : Sound hb most w' V' avs' h') (hf : HFr hb V V' w w') (hT : s.h.T <+: h'.T) :
    WkIn H0 w' wk hb V' avs' most lv kv fx { s with h := h' } ∧ Below H0 w w' := by
  have hnm : ∀ (b : Nat) (cs : Array Value) (T : TypeId), w.heap[b]? = some (Obj.cells cs T (0, 0)) → (T = 178 ∨ T = 180 ∨ T = 111) → w'.heap[b]? = w.heap[b]? := fun b cs T q hT => hf.block b (Array.getElem?_eq_some_iff.1 q).1 (HM_not h.S.H.tab.H q hT)
  have hB : Below H0 w w' := ⟨hf.os, hf.tape, hf.output, hf.size, fun b hb => hf.block b (Nat.lt_of_lt_of_le hb h.size) (fun q => by have := h.nh b q; omega)⟩
  refine ⟨⟨(hnm wk _ _ h.cells (.inr (.inr rfl))).trans h.cells, S', ?_, ?_, fun g hg => ?_, h.nw, fun b q => ?_, ⟨own_hfr h.ext.own hf h.ext.nm, fun b e => not_HM hf (h.ext.own.lt b e).2 (h.ext.nm b e), fun b e => (hf.block b (Array.getElem?_eq_some_iff.1 (h.ext.kept b e)).1 (HM_notQ h.S.H.tab.H (h.ext.kept b e))).trans (h.ext.kept b e)⟩⟩, hB⟩
  · exact own_keep h.lo fun b e => by
      obtain ⟨cs, q⟩ := own_cells h.lo e
      exact hnm b cs _ q (.inl rfl)
  · exact own_keep h.bo fun b e => by
      obtain ⟨cs, q⟩ := own_cells h.bo e
      exact hnm b cs _ q (.inr (.inl rfl))
  · have q := h.gl g hg
    refine ⟨q.shape, ⟨own_hfr q.row.own hf q.row.vn, fun b e => not_HM hf (q.row.own.lt b e).2 (q.row.vn b e), fun a ha => Nat.lt_of_lt_of_le (q.row.lt a ha) hT.length_le, q.row.few⟩, fun ho => ⟨(q.body ho).1.frame (fun b hb _ => ⟨hB.block b hb, hb⟩), (q.body ho).2⟩⟩
  · rcases hf.mnew b q with r | r
    · exact h.nh b r
    · have := h.size; omega
theorem WkIn.todoS (h : WkIn H0 w wk hb V avs most lv kv fx s) (t : Int) : WkIn H0 (w.setCell ⟨wk, 3, none⟩ (.int .i64 t)) wk hb V avs most lv kv fx { s with todo := t } ∧ Below H0 w (w.setCell ⟨wk, 3, none⟩ (.int .i64 t)) := by
  have hB : Below H0 w (w.setCell ⟨wk, 3, none⟩ (.int .i64 t)) := (Below.refl H0 w).setCell (p := ⟨wk, 3, none⟩) h.nw _
  have hne : ∀ (b : Nat) (cs : Array Value) (T : TypeId), w.heap[b]? = some (Obj.cells cs T (0, 0)) → T ≠ 111 → (w.setCell ⟨wk, 3, none⟩ (.int .i64 t)).heap[b]? = w.heap[b]? := fun b cs T q n => Below.heap_setCell _ _ _ _ (fun e => by
    have e' : b = wk := e
    rw [e', h.cells] at q
    injection q with q; injection q with _ q
    exact n q.symm)
  obtain ⟨h1, h2, h3⟩ := h.others (w' := w.setCell ⟨wk, 3, none⟩ (.int .i64 t)) (fun b cs T q _ _ n3 => hne b cs T q n3) hB
  refine ⟨⟨by rw [heap_setCell_same h.cells]; rfl, h1, ?_, ?_, fun x hx => h2 x (h.gl x hx), h.nw, h.nh, h3⟩, hB⟩
  · exact own_keep h.lo fun b e => by
      obtain ⟨cs, q⟩ := own_cells h.lo e
      exact hne b cs _ q (by decide)
  · exact own_keep h.bo fun b e => by
      obtain ⟨cs, q⟩ := own_cells h.bo e
      exact hne b cs _ q (by decide)
theorem WkIn.cutS {ao : Option Addr} {cap : Nat} (h : WkIn H0 w wk hb V avs most lv (.slice ao s.bk.length cap) fx s) (n : Nat) (hn : n ≤ s.bk.length) :
    WkIn H0 (w.setCell ⟨wk, 4, none⟩ (.slice ao n cap)) wk hb V avs most lv (.slice ao n cap) fx { s with bk := s.bk.take n } ∧ Below H0 w (w.setCell ⟨wk, 4, none⟩ (.slice ao n cap)) := by
  have hB : Below H0 w (w.setCell ⟨wk, 4, none⟩ (.slice ao n cap)) := (Below.refl H0 w).setCell (p := ⟨wk, 4, none⟩) h.nw _
  have hne : ∀ (b : Nat) (cs : Array Value) (T : TypeId), w.heap[b]? = some (Obj.cells cs T (0, 0)) → T ≠ 111 → (w.setCell ⟨wk, 4, none⟩ (.slice ao n cap)).heap[b]? = w.heap[b]? := fun b cs T q n => Below.heap_setCell _ _ _ _ (fun e => by
    have e' : b = wk := e
    rw [e', h.cells] at q
    injection q with q; injection q with _ q
    exact n q.symm)
  obtain ⟨h1, h2, h3⟩ := h.others (w' := w.setCell ⟨wk, 4, none⟩ (.slice ao n cap)) (fun b cs T q _ _ n3 => hne b cs T q n3) hB
  refine ⟨⟨by rw [heap_setCell_same h.cells]; rfl, h1, ?_, ?_, fun x hx => h2 x (h.gl x hx), h.nw, h.nh, h3⟩, hB⟩
  · exact own_keep h.lo fun b e => by
      obtain ⟨cs, q⟩ := own_cells h.lo e
      exact hne b cs _ q (by decide)
  · have h6 : ∀ (l : List Ag) (n : Nat), (l.flatMap Ag.cells).take (n * 6) = (l.take n).flatMap Ag.cells := by
      intro l
      induction l with
      | nil => intro n; simp
      | cons a l ih =>
        intro n
        cases n with
        | zero => simp
        | succ n =>
          have : (n + 1) * 6 = a.cells.length + n * 6 := by simp [Ag.cells]; omega
          rw [List.flatMap_cons, this, List.take_append, List.take_of_length_le (by omega), List.take_succ_cons, List.flatMap_cons]
          rw [show a.cells.length + n * 6 - a.cells.length = n * 6 by omega, ih n]
    have hlen : (s.bk.take n).length = n := by rw [List.length_take]; omega
    show World.ownsRow _ H0 180 6 (.slice ao n cap) (s.bk.take n).length ((s.bk.take n).flatMap Ag.cells)
    rw [hlen, ← h6]
    have hbo := h.bo
    have hl6 : (s.bk.flatMap Ag.cells).length = s.bk.length * 6 := hbo.1
    refine ⟨by rw [List.length_take, hl6]; omega, ?_⟩
    rcases hbo.2 with ⟨q, q0⟩ | ⟨g, cp, cur, q, q1, q2, q3, q4, q5, q6⟩
    · left
      have hn0 : n = 0 := by omega
      injection q with qa qb qc
      exact ⟨by rw [qa, hn0, qc], hn0⟩
    · right
      injection q with qa qb qc
      refine ⟨g, cp, cur, by rw [qa, qc], q1, ?_, by omega, q4, q5, ?_⟩
      · exact (hne g _ _ q2 (by decide)).trans q2
      · rw [← q6, List.take_take, Nat.min_eq_left (by omega)]
end
section
variable {H0 : Nat} {w : World} {wk hb : Nat} {V : _root_.Fin 6 → Value} {avs : List Value} {most : Int} {lv : Value} {fx : Fix} {s : Wk} {ao : Option Addr} {cap : Nat} {g bc : Nat} {av k m ba bq vv : Value} {c : Cl}
theorem Sound.count {h : Hp} {w : World} (S : Sound hb most w V avs h) (c : Int) (hc : 0 ≤ c) : Sound hb most (w.setCell ⟨hb, 6, none⟩ (.int .i64 c)) V avs { h with cost := c } ∧ HFr hb V V w (w.setCell ⟨hb, 6, none⟩ (.int .i64 c)) := by
  obtain ⟨a, b⟩ := S.H.count c
  exact ⟨⟨a, S.f4, S.nums, hc⟩, b⟩
theorem clause_z (h : WkIn H0 w wk hb V avs most lv (.slice ao s.bk.length cap) fx s) (hA : BaseIs w H0 fx.a g bc av k m ba bq vv c) (hs : s.ls.length ≤ 900000000) (hbs : s.bk.length ≤ 1000000000) (hT : s.h.T.length + 13 ≤ 900000000) (hc : s.h.cost ≤ 1000000000000) (todo : Int) :
    Calls Tryz.prog 91 #[.pointer (some ⟨wk, 0, none⟩), .string (B [97]), .slice none 0 0, .int .i64 0, .int .i64 todo, .int .i64 s.bk.length] w fun e w' => e = .returned (.bool true) ∧
      ∃ V' avs' lv' kv' v, WkIn H0 w' wk hb V' avs' most lv' kv' fx { h := { s.h with cost := s.h.cost + 1 }, ls := s.ls ++ [⟨c.body, [k, m, ba, bq], false, v, [], s.bk.length, todo⟩], todo := s.ls.length, bk := s.bk } ∧ Below H0 w w' := by
  have hc0 := h.S.c0
  obtain ⟨c0, c1, c2, c3, c4, cf⟩ := h.cs
  have d6 : w.cell? ⟨hb, 6, none⟩ = some (.int .i64 s.h.cost) := by rw [h.S.H.tab.H.c 6]; rfl
  have e6 := h.S.H.tab.H.fz 6
  have hhb := h.S.H.tab.H.lt_size
  have hlt := h.lt
  have hne : wk ≠ hb := fun e => HM_not h.S.H.tab.H h.cells (.inr (.inr rfl)) (.inl e)
  obtain ⟨q1, q2⟩ := h.S.count (s.h.cost + 1) (by omega)
  obtain ⟨h1, b1⟩ := h.heaped q1 q2 (List.prefix_refl _)
  obtain ⟨h2, b2⟩ := WkIn.cutS (s := { s with h := { s.h with cost := s.h.cost + 1 } }) h1 s.bk.length (Nat.le_refl _)
  have hA2 := hA.keep h.size (b1.trans b2)
  have f4 := cf 4
  have f4' : (w.setCell ⟨hb, 6, none⟩ (.int .i64 (s.h.cost + 1))).frozen? ⟨wk, 4, none⟩ = false := h1.cs.2.2.2.2.2 4
  have c4' : (w.setCell ⟨hb, 6, none⟩ (.int .i64 (s.h.cost + 1))).cell? ⟨wk, 4, none⟩ = some (.slice ao s.bk.length cap) := h1.cs.2.2.2.2.1
  have hcap : s.bk.length ≤ cap ∧ cap ≤ maxLen := by
    rcases h.bo.2 with ⟨q, q0⟩ | ⟨g, cp, cur, q, _, _, q3, q4, _⟩
    · injection q with _ _ q; exact ⟨by omega, by rw [q]; unfold maxLen; omega⟩
    · injection q with _ _ q; subst q; exact ⟨q3, q4⟩
  have HH2 := hide h2
  have HA2 := hide hA2
  have HB2 := hide (b1.trans b2)
  have htk : s.bk.take s.bk.length = s.bk := List.take_length
  rw [htk] at HH2
  unfold maxLen at hcap
  clear h h1 h2 q1 q2 hA hA2 b1 b2 cf htk
  go_enter Tryz.func91, Tryz.ntmps91
  go_upto_region 3 with fail
  obtain ⟨W2, hW2⟩ : ∃ W2, W2 = (w.setCell ⟨hb, 6, none⟩ (.int .i64 (s.h.cost + 1))).setCell ⟨wk, 4, none⟩ (.slice ao s.bk.length cap) := ⟨_, rfl⟩
  rw [← hW2] at HH2 HA2 HB2 ⊢
  clear hW2 d6 e6 f4 f4' c4' c0 c1 c2 c3 c4 hhb hlt
  obtain ⟨c0, c1, c2, c3, c4, cf⟩ := HH2.out.cs
  rw [HA2.out.eq] at c1
  have hlt := HH2.out.lt
  have HN := hide (next_z HH2.out HA2.out (B [97]) 0 1 (Nat.le_refl _))
  have g0 := HA2.out.c0
  have g1 := HA2.out.c1
  have g2 := HA2.out.c2
  have g3 := HA2.out.c3
  have g4 := HA2.out.c4
  have g5 := HA2.out.c5
  have g6 := HA2.out.c6
  have hgl := HA2.out.lt
  obtain ⟨va, vz, hvv⟩ := HA2.out.v0
  obtain ⟨aa, az, hav⟩ := HA2.out.a0
  obtain ⟨k', m', ba0, ba1, ba2, bq0, bq1, bq2, hkm⟩ := HA2.out.body.shape
  injection hkm with hk hkm
  injection hkm with hm hkm
  injection hkm with hba hkm
  injection hkm with hbq _
  subst hvv hav hk hm hba hbq
  clear cf
  go_upto_region 7 with (first | (go_at_call 135; refine HN.out.mono ?_; rintro e w1 ⟨rfl, hw1⟩; subst w1))
  obtain ⟨W3, hW3⟩ : ∃ W3, W3 = W2.alloc (.cells #[.string (B [97]), .slice aa 0 az, .int .u8 k', .string m', .slice ba0 ba1 ba2, .slice bq0 bq1 bq2, .slice va 0 vz] 50) := ⟨_, rfl⟩
  have hB3 : Below W2.heap.size W2 W3 := by rw [hW3]; exact (Below.refl _ _).alloc (Nat.le_refl _) _
  have hbx : W3.heap[W2.heap.size]? = some (.cells #[.string (B [97]), .slice aa 0 az, .int .u8 k', .string m', .slice ba0 ba1 ba2, .slice bq0 bq1 bq2, .slice va 0 vz] 50 (0, 0)) := by rw [hW3]; exact heap_alloc_new _ _
  rw [← hW3]
  have h3 := HH2.out.below hB3
  have h3d := h3.below (w' := W3.drew) (Below.refl _ _).drew
  have x6 : W3.cell? ⟨W2.heap.size, 6, none⟩ = some (.slice va 0 vz) := by rw [cell_of_block hbx]; rfl
  have y0 : W3.cell? ⟨wk, 0, none⟩ = some (.pointer (some ⟨hb, 0, none⟩)) := h3.cs.1
  have hlt3 := h3.lt
  have hsz3 : W2.heap.size < W3.heap.size := (Array.getElem?_eq_some_iff.1 hbx).1
  have HF : Hid (Calls Tryz.prog 57 #[.pointer (some ⟨hb, 0, none⟩), .int .i64 0] W3.drew fun e w' => ∃ v V', e = .returned v ∧ FreshB s.h.bs s.h.err W3.drew hb V s.h.T avs (s.h.cost + 1) most 0 v w' V') := freshB_any h3d.S.tabB 0 (by omega) hT
  have HB3 := hide hB3
  have HBX := hide hbx
  have H3D := hide h3d
  clear hW3 hB3 hbx h3 h3d g0 g1 g2 g3 g4 g5 g6 c0 c1 c2 c3 c4
  go_wp2_with fail
  go_region_with (go_at_call 57; refine HF.out.mono ?_; rintro e w4 ⟨v, V4, rfl, hF⟩)
  all_goals
    have hnx : ¬ HM hb V W2.heap.size := fun q => by have := HH2.out.S.H.tab.H.mlt _ q; omega
    have hbx4 := (hF.fr.block W2.heap.size (show W2.heap.size < W3.heap.size from hsz3) hnx).trans HBX.out
    have tb4 : TabB s.h.bs s.h.err w4 hb V4 s.h.T avs (s.h.cost + 1) most := by simpa using hF.tb
    have S4 : Sound hb most w4 V4 avs { s.h with cost := s.h.cost + 1 } := tb4.sound H3D.out.S (List.prefix_refl _) H3D.out.S.nds H3D.out.S.H.small
    obtain ⟨h4, b4⟩ := H3D.out.heaped S4 hF.fr (List.prefix_refl _)
    obtain ⟨vo, vc, hvf⟩ := row_form hF.own
    subst hvf
    have hrow : RowV w4 hb V4 s.h.T.length (.slice vo 0 vc) [] := ⟨by have := ownsRow_base hF.own (Nat.zero_le _); simpa [intsV] using this, hF.vn, by simp, by simp⟩
    have hA4 := HA2.out.keep HH2.out.size ((HB3.out.mono HH2.out.size).trans (((Below.refl _ _).drew).trans b4))
    have z2 : w4.cell? ⟨W2.heap.size, 2, none⟩ = some (.int .u8 k') := by rw [cell_of_block hbx4]; rfl
    have z3 : w4.cell? ⟨W2.heap.size, 3, none⟩ = some (.string m') := by rw [cell_of_block hbx4]; rfl
    have z4 : w4.cell? ⟨W2.heap.size, 4, none⟩ = some (.slice ba0 ba1 ba2) := by rw [cell_of_block hbx4]; rfl
    have z5 : w4.cell? ⟨W2.heap.size, 5, none⟩ = some (.slice bq0 bq1 bq2) := by rw [cell_of_block hbx4]; rfl
    have hsz4 : W2.heap.size < w4.heap.size := (Array.getElem?_eq_some_iff.1 hbx4).1
    have HPU := hide (push_z h4 (by show s.ls.length ≤ 1000000000; omega) c.body _ hA4.body (.slice vo 0 vc) [] hrow hA4.ok s.bk.length todo)
    have HB4 := hide b4
    clear h4 b4 S4 tb4 hrow hA4 hF hbx4 hnx
    go_wp2_with fail
    go_loop [16] (fun i => i = .int .i64 0) (fun _ => 0)
    case atStart => rfl
    case round =>
      subst hrel
      go_upto_region 16 with (go_at_call 58; refine HPU.out.mono ?_; rintro e w5 ⟨rfl, lv5, h5, b5, _⟩; have f35 := h5.cs.2.2.2.2.2 3; have c35 := h5.cs.2.2.2.1; have hlt5 := h5.lt)
      obtain ⟨h6, b6⟩ := h5.todoS s.ls.length
      go_wp2_with fail
      go_ret
      have HB6 := hide (HB2.out.trans ((HB3.out.mono HH2.out.size).trans (((Below.refl _ _).drew).trans (HB4.out.trans (b5.trans b6)))))
      exact ⟨rfl, ⟨_, _, _, _, _, h6⟩, HB6.out⟩
end
section
variable {H0 : Nat} {w : World} {wk hb : Nat} {V : _root_.Fin 6 → Value} {avs : List Value} {most : Int} {lv kv : Value} {fx : Fix} {s : Wk}
theorem flat8 : ∀ (l : List Gl), (∀ g ∈ l, g.cs.length = 4) → ∀ (i : Nat) (g : Gl), l[i]? = some g → ∀ j, j < 8 → (l.flatMap Gl.cells)[i * 8 + j]? = g.cells[j]?
  | [], _, i, g, h, _, _ => by simp at h
  | a :: l, hl, 0, g, h, j, hj => by
    simp at h; subst h
    have := hl a List.mem_cons_self
    have hc : a.cells.length = 8 := by simp [Gl.cells, this]
    rw [List.flatMap_cons, List.getElem?_append_left (by omega)]
    simp
  | a :: l, hl, i + 1, g, h, j, hj => by
    have := hl a List.mem_cons_self
    have hc : a.cells.length = 8 := by simp [Gl.cells, this]
    rw [List.flatMap_cons, List.getElem?_append_right (by omega), show (i + 1) * 8 + j - a.cells.length = i * 8 + j by omega]
    exact flat8 l (fun g hg => hl g (List.mem_cons_of_mem _ hg)) i g (by simpa using h) j hj
theorem GlOk.len4 {n : Nat} {g : Gl} (h : GlOk w H0 hb V n g) : g.cs.length = 4 := by
  obtain ⟨_, _, _, _, _, _, _, _, e⟩ := h.shape
  rw [e]; rfl
theorem WkIn.listAt (h : WkIn H0 w wk hb V avs most lv kv fx s) {t : Nat} {g : Gl} (ht : s.ls[t]? = some g) :
    ∃ lg cap k nm a0 a1 a2 p0 p1 p2, lv = .slice (some ⟨lg, 0, none⟩) s.ls.length cap ∧ lg < w.heap.size ∧ g.cs = [.int .u8 k, .string nm, .slice a0 a1 a2, .slice p0 p1 p2] ∧
      w.cell? ⟨lg, t * 8, none⟩ = some (.int .u8 k) ∧ w.cell? ⟨lg, t * 8 + 1, none⟩ = some (.string nm) ∧ w.cell? ⟨lg, t * 8 + 2, none⟩ = some (.slice a0 a1 a2) ∧ w.cell? ⟨lg, t * 8 + 3, none⟩ = some (.slice p0 p1 p2) ∧
      w.cell? ⟨lg, t * 8 + 4, none⟩ = some (.bool g.only) ∧ w.cell? ⟨lg, t * 8 + 5, none⟩ = some g.vv ∧ w.cell? ⟨lg, t * 8 + 6, none⟩ = some (.int .i64 g.cut) ∧ w.cell? ⟨lg, t * 8 + 7, none⟩ = some (.int .i64 g.rest) := by
  have htl : t < s.ls.length := (List.getElem?_eq_some_iff.1 ht).1
  have hg := h.gl g (List.mem_of_getElem? ht)
  obtain ⟨k, nm, a0, a1, a2, p0, p1, p2, hcs⟩ := hg.shape
  have hf := flat8 s.ls (fun g hg => (h.gl g hg).len4) t g ht
  have hc : g.cells = [.int .u8 k, .string nm, .slice a0 a1 a2, .slice p0 p1 p2, .bool g.only, g.vv, .int .i64 g.cut, .int .i64 g.rest] := by unfold Gl.cells; rw [hcs]; rfl
  rcases h.lo.2 with ⟨_, q⟩ | ⟨lg, cap, cur, q, _, q2, _, _, _, q6⟩
  · omega
  · refine ⟨lg, cap, k, nm, a0, a1, a2, p0, p1, p2, q, (Array.getElem?_eq_some_iff.1 q2).1, hcs, ?_, ?_, ?_, ?_, ?_, ?_, ?_, ?_⟩
    · exact rowCell q2 q6 (by have := hf 0 (by omega); rw [Nat.add_zero] at this; rw [this, hc]; rfl)
    · exact rowCell q2 q6 (by rw [hf 1 (by omega), hc]; rfl)
    · exact rowCell q2 q6 (by rw [hf 2 (by omega), hc]; rfl)
    · exact rowCell q2 q6 (by rw [hf 3 (by omega), hc]; rfl)
    · exact rowCell q2 q6 (by rw [hf 4 (by omega), hc]; rfl)
    · exact rowCell q2 q6 (by rw [hf 5 (by omega), hc]; rfl)
    · exact rowCell q2 q6 (by rw [hf 6 (by omega), hc]; rfl)
    · exact rowCell q2 q6 (by rw [hf 7 (by omega), hc]; rfl)
end
section
variable {H0 : Nat} {w : World} {wk hb : Nat} {V : _root_.Fin 6 → Value} {avs : List Value} {most : Int} {lv kv : Value} {fx : Fix} {s : Wk}
theorem step_only (h : WkIn H0 w wk hb V avs most lv kv fx s) (hc : s.h.cost ≤ 1000000000000) (t : Nat) (g : Gl) (hto : s.todo = t) (ht : s.ls[t]? = some g) (ho : g.only = true) (hcut : g.cut ≤ s.bk.length) (hls : s.ls.length ≤ 1000000000) :
    Calls Tryz.prog 89 #[.pointer (some ⟨wk, 0, none⟩)] w fun e w' => e = .returned (.bool true) ∧
      ∃ kv', WkIn H0 w' wk hb V avs most lv kv' fx { s with h := { s.h with cost := s.h.cost + 1 }, todo := g.rest, bk := s.bk.take g.cut } ∧ Below H0 w w' := by
  have hc0 := h.S.c0
  obtain ⟨c0, c1, c2, c3, c4, cf⟩ := h.cs
  have d6 : w.cell? ⟨hb, 6, none⟩ = some (.int .i64 s.h.cost) := by rw [h.S.H.tab.H.c 6]; rfl
  have e6 := h.S.H.tab.H.fz 6
  have hhb := h.S.H.tab.H.lt_size
  have hlt := h.lt
  obtain ⟨q1, q2⟩ := h.S.count (s.h.cost + 1) (by omega)
  obtain ⟨h1, b1⟩ := h.heaped q1 q2 (List.prefix_refl _)
  obtain ⟨w1, hw1⟩ : ∃ w1, w1 = w.setCell ⟨hb, 6, none⟩ (.int .i64 (s.h.cost + 1)) := ⟨_, rfl⟩
  rw [← hw1] at h1 b1
  have HH := hide h1
  have HB1 := hide b1
  have htl : t < s.ls.length := (List.getElem?_eq_some_iff.1 ht).1
  have HT := hide ht
  have HO := hide ho
  clear h h1 b1 q1 q2 cf ht ho
  go_enter Tryz.func89, Tryz.ntmps89
  go_upto_region 2 with fail
  rw [← hw1]
  clear hw1 c0 c1 c2 c3 c4 d6 e6 hhb hlt
  obtain ⟨c0, c1, c2, c3, c4, cf⟩ := HH.out.cs
  have hlt := HH.out.lt
  obtain ⟨lg, lcap, k, nm, a0, a1, a2, p0, p1, p2, rfl, hlg, hcs, g0, g1, g2, g3, g4, g5, g6, g7⟩ := HH.out.listAt HT.out
  have hrow := (HH.out.gl g (List.mem_of_getElem? HT.out)).row.own
  obtain ⟨vo, vc, hvv⟩ := row_form hrow
  rw [hvv] at g5
  rw [HO.out] at g4
  have c3' : w1.cell? ⟨wk, 3, none⟩ = some (.int .i64 (t : Nat)) := by rw [c3, ← hto]
  have c3'' : w1.drew.cell? ⟨wk, 3, none⟩ = some (.int .i64 (t : Nat)) := c3'
  have f3 := cf 3
  have f4 := cf 4
  clear cf c3 hrow
  go_wp2_with fail
  go_region
  obtain ⟨W2, hW2⟩ : ∃ W2, W2 = (w1.alloc (.cells #[.int .u8 k, .string nm, .slice a0 a1 a2, .slice p0 p1 p2, .bool true, .slice vo g.vs.length vc, .int .i64 g.cut, .int .i64 g.rest] 178)).drew := ⟨_, rfl⟩
  have hB2 : Below w1.heap.size w1 W2 := by rw [hW2]; exact ((Below.refl _ _).alloc (Nat.le_refl _) _).drew
  have hbx : W2.heap[w1.heap.size]? = some (.cells #[.int .u8 k, .string nm, .slice a0 a1 a2, .slice p0 p1 p2, .bool true, .slice vo g.vs.length vc, .int .i64 g.cut, .int .i64 g.rest] 178 (0, 0)) := by rw [hW2]; exact heap_alloc_new w1 _
  rw [← hW2]
  have h2 := HH.out.below hB2
  obtain ⟨h3, b3⟩ := h2.todoS g.rest
  obtain ⟨W3, hW3⟩ : ∃ W3, W3 = W2.setCell ⟨wk, 3, none⟩ (.int .i64 g.rest) := ⟨_, rfl⟩
  rw [← hW3] at h3 b3
  have hnew : w1.heap.size ≠ wk := fun e => by omega
  have hbx3 : W3.heap[w1.heap.size]? = some (.cells #[.int .u8 k, .string nm, .slice a0 a1 a2, .slice p0 p1 p2, .bool true, .slice vo g.vs.length vc, .int .i64 g.cut, .int .i64 g.rest] 178 (0, 0)) := by rw [hW3, Below.heap_setCell _ _ _ _ hnew]; exact hbx
  have x7 : W2.cell? ⟨w1.heap.size, 7, none⟩ = some (.int .i64 g.rest) := by rw [cell_of_block hbx]; rfl
  have y4 : W3.cell? ⟨w1.heap.size, 4, none⟩ = some (.bool true) := by rw [cell_of_block hbx3]; rfl
  have y6 : W3.cell? ⟨w1.heap.size, 6, none⟩ = some (.int .i64 g.cut) := by rw [cell_of_block hbx3]; rfl
  have m3 := h2.cs.2.2.2.1
  have mf3 := h2.cs.2.2.2.2.2 3
  have hlt2 := h2.lt
  obtain ⟨ko, kc, hkv⟩ := row_form h3.bo
  have n4 := h3.cs.2.2.2.2.1
  have nf4 := h3.cs.2.2.2.2.2 4
  have hlt3 := h3.lt
  rw [hkv] at n4 h3
  have hcap : s.bk.length ≤ kc ∧ kc ≤ maxLen := by
    rcases h3.bo.2 with ⟨q, q0⟩ | ⟨g, cp, cur, q, _, _, q3, q4, _⟩
    · injection q with _ _ q; exact ⟨by have : s.bk.length = 0 := q0; omega, by rw [q]; unfold maxLen; omega⟩
    · injection q with _ _ q; subst q; exact ⟨q3, q4⟩
  unfold maxLen at hcap
  have n4' : W3.cell? ⟨wk, 4, none⟩ = some (.slice ko s.bk.length kc) := n4
  have hs3 : w1.heap.size < W3.heap.size := (Array.getElem?_eq_some_iff.1 hbx3).1
  have hs2 : w1.heap.size < W2.heap.size := (Array.getElem?_eq_some_iff.1 hbx).1
  obtain ⟨h4, b4⟩ := WkIn.cutS (w := W3.drew) (s := { s with h := { s.h with cost := s.h.cost + 1 }, todo := g.rest }) (h3.below (Below.refl _ _).drew) g.cut hcut
  have HP := hide h4
  have HBB : Hid (Below H0 w (W3.drew.setCell ⟨wk, 4, none⟩ (.slice ko g.cut kc))) := HB1.out.trans ((hB2.mono HH.out.size).trans (b3.trans (((Below.refl _ _).drew).trans b4)))
  clear hW2 hB2 hbx h2 h3 b3 hbx3 h4 b4 n4 g0 g1 g2 g3 g4 g5 g6 g7 c0 c1 c2 c3' c3'' c4 f3 f4
  go_upto_region 4 with fail
  rw [← hW3]
  clear hW3
  go_wp2_with fail
  go_region
  all_goals
    go_wp2_with fail
    go_ret
    exact ⟨rfl, ⟨_, HP.out⟩, HBB.out⟩
end
section
variable {H0 : Nat} {w : World} {wk hb : Nat} {V : _root_.Fin 6 → Value} {avs : List Value} {most : Int} {lv kv : Value} {fx : Fix} {s : Wk}
theorem step_cut (h : WkIn H0 w wk hb V avs most lv kv fx s) (hc : s.h.cost ≤ 1000000000000) (t : Nat) (g : Gl) (hto : s.todo = t) (ht : s.ls[t]? = some g) (ho : g.only = false) (hcut : g.cut ≤ s.bk.length) (hls : s.ls.length ≤ 1000000000) (nm0 : ByteArray) (ar : List Ex) (ps : List Bd) (hgb : g.b = .mk 33 nm0 ar ps) :
    Calls Tryz.prog 89 #[.pointer (some ⟨wk, 0, none⟩)] w fun e w' => e = .returned (.bool true) ∧
      ∃ kv', WkIn H0 w' wk hb V avs most lv kv' fx { s with h := { s.h with cost := s.h.cost + 1 }, todo := g.rest, bk := s.bk.take g.cut } ∧ Below H0 w w' := by
  have hc0 := h.S.c0
  obtain ⟨c0, c1, c2, c3, c4, cf⟩ := h.cs
  have d6 : w.cell? ⟨hb, 6, none⟩ = some (.int .i64 s.h.cost) := by rw [h.S.H.tab.H.c 6]; rfl
  have e6 := h.S.H.tab.H.fz 6
  have hhb := h.S.H.tab.H.lt_size
  have hlt := h.lt
  obtain ⟨q1, q2⟩ := h.S.count (s.h.cost + 1) (by omega)
  obtain ⟨h1, b1⟩ := h.heaped q1 q2 (List.prefix_refl _)
  obtain ⟨w1, hw1⟩ : ∃ w1, w1 = w.setCell ⟨hb, 6, none⟩ (.int .i64 (s.h.cost + 1)) := ⟨_, rfl⟩
  rw [← hw1] at h1 b1
  have HH := hide h1
  have HB1 := hide b1
  have htl : t < s.ls.length := (List.getElem?_eq_some_iff.1 ht).1
  have HT := hide ht
  have HO := hide ho
  clear h h1 b1 q1 q2 cf ht ho
  go_enter Tryz.func89, Tryz.ntmps89
  go_upto_region 2 with fail
  rw [← hw1]
  clear hw1 c0 c1 c2 c3 c4 d6 e6 hhb hlt
  obtain ⟨c0, c1, c2, c3, c4, cf⟩ := HH.out.cs
  have hlt := HH.out.lt
  obtain ⟨lg, lcap, k, nm, a0, a1, a2, p0, p1, p2, rfl, hlg, hcs, g0, g1, g2, g3, g4, g5, g6, g7⟩ := HH.out.listAt HT.out
  have hrow := (HH.out.gl g (List.mem_of_getElem? HT.out)).row.own
  obtain ⟨vo, vc, hvv⟩ := row_form hrow
  rw [hvv] at g5
  rw [HO.out] at g4
  have c3' : w1.cell? ⟨wk, 3, none⟩ = some (.int .i64 (t : Nat)) := by rw [c3, ← hto]
  have c3'' : w1.drew.cell? ⟨wk, 3, none⟩ = some (.int .i64 (t : Nat)) := c3'
  have f3 := cf 3
  have f4 := cf 4
  clear cf c3 hrow
  go_wp2_with fail
  go_region
  obtain ⟨W2, hW2⟩ : ∃ W2, W2 = (w1.alloc (.cells #[.int .u8 k, .string nm, .slice a0 a1 a2, .slice p0 p1 p2, .bool false, .slice vo g.vs.length vc, .int .i64 g.cut, .int .i64 g.rest] 178)).drew := ⟨_, rfl⟩
  have hB2 : Below w1.heap.size w1 W2 := by rw [hW2]; exact ((Below.refl _ _).alloc (Nat.le_refl _) _).drew
  have hbx : W2.heap[w1.heap.size]? = some (.cells #[.int .u8 k, .string nm, .slice a0 a1 a2, .slice p0 p1 p2, .bool false, .slice vo g.vs.length vc, .int .i64 g.cut, .int .i64 g.rest] 178 (0, 0)) := by rw [hW2]; exact heap_alloc_new w1 _
  rw [← hW2]
  have h2 := HH.out.below hB2
  obtain ⟨h3, b3⟩ := h2.todoS g.rest
  obtain ⟨W3, hW3⟩ : ∃ W3, W3 = W2.setCell ⟨wk, 3, none⟩ (.int .i64 g.rest) := ⟨_, rfl⟩
  rw [← hW3] at h3 b3
  have hnew : w1.heap.size ≠ wk := fun e => by omega
  have hbx3 : W3.heap[w1.heap.size]? = some (.cells #[.int .u8 k, .string nm, .slice a0 a1 a2, .slice p0 p1 p2, .bool false, .slice vo g.vs.length vc, .int .i64 g.cut, .int .i64 g.rest] 178 (0, 0)) := by rw [hW3, Below.heap_setCell _ _ _ _ hnew]; exact hbx
  have x7 : W2.cell? ⟨w1.heap.size, 7, none⟩ = some (.int .i64 g.rest) := by rw [cell_of_block hbx]; rfl
  have m3 := h2.cs.2.2.2.1
  have mf3 := h2.cs.2.2.2.2.2 3
  have hlt2 := h2.lt
  have hs2 : w1.heap.size < W2.heap.size := (Array.getElem?_eq_some_iff.1 hbx).1
  have z0 : W3.cell? ⟨w1.heap.size, 0, none⟩ = some (.int .u8 k) := by rw [cell_of_block hbx3]; rfl
  have z1 : W3.cell? ⟨w1.heap.size, 1, none⟩ = some (.string nm) := by rw [cell_of_block hbx3]; rfl
  have z2 : W3.cell? ⟨w1.heap.size, 2, none⟩ = some (.slice a0 a1 a2) := by rw [cell_of_block hbx3]; rfl
  have z3 : W3.cell? ⟨w1.heap.size, 3, none⟩ = some (.slice p0 p1 p2) := by rw [cell_of_block hbx3]; rfl
  have z4 : W3.cell? ⟨w1.heap.size, 4, none⟩ = some (.bool false) := by rw [cell_of_block hbx3]; rfl
  have hs3 : w1.heap.size < W3.heap.size := (Array.getElem?_eq_some_iff.1 hbx3).1
  obtain ⟨W4, hW4⟩ : ∃ W4, W4 = W3.alloc (.cells #[.int .u8 k, .string nm, .slice a0 a1 a2, .slice p0 p1 p2] 47) := ⟨_, rfl⟩
  have hB4 : Below W3.heap.size W3 W4 := by rw [hW4]; exact (Below.refl _ _).alloc (Nat.le_refl _) _
  have hbb : W4.heap[W3.heap.size]? = some (.cells #[.int .u8 k, .string nm, .slice a0 a1 a2, .slice p0 p1 p2] 47 (0, 0)) := by rw [hW4]; exact heap_alloc_new _ _
  have hbx4 := (hB4.block w1.heap.size hs3).trans hbx3
  have h4 := h3.below hB4
  obtain ⟨ko, kc, hkv⟩ := row_form h4.bo
  rw [hkv] at h4
  have hcap : s.bk.length ≤ kc ∧ kc ≤ maxLen := by
    rcases h4.bo.2 with ⟨q, q0⟩ | ⟨g, cp, cur, q, _, _, q3, q4, _⟩
    · injection q with _ _ q; exact ⟨by have : s.bk.length = 0 := q0; omega, by rw [q]; unfold maxLen; omega⟩
    · injection q with _ _ q; subst q; exact ⟨q3, q4⟩
  unfold maxLen at hcap
  obtain ⟨r0, r1, r2, r3, r4, rf⟩ := h4.cs
  have r4' : W4.cell? ⟨wk, 4, none⟩ = some (.slice ko s.bk.length kc) := r4
  have rf4 := rf 4
  have rf3 := rf 3
  have hlt4 := h4.lt
  have y0 : W4.cell? ⟨W3.heap.size, 0, none⟩ = some (.int .u8 k) := by rw [cell_of_block hbb]; rfl
  have y1 : W4.cell? ⟨W3.heap.size, 1, none⟩ = some (.string nm) := by rw [cell_of_block hbb]; rfl
  have y2 : W4.cell? ⟨W3.heap.size, 2, none⟩ = some (.slice a0 a1 a2) := by rw [cell_of_block hbb]; rfl
  have y3 : W4.cell? ⟨W3.heap.size, 3, none⟩ = some (.slice p0 p1 p2) := by rw [cell_of_block hbb]; rfl
  have x5 : W4.cell? ⟨w1.heap.size, 5, none⟩ = some (.slice vo g.vs.length vc) := by rw [cell_of_block hbx4]; rfl
  have x6 : W4.cell? ⟨w1.heap.size, 6, none⟩ = some (.int .i64 g.cut) := by rw [cell_of_block hbx4]; rfl
  have hs4 : W3.heap.size < W4.heap.size := (Array.getElem?_eq_some_iff.1 hbb).1
  have HBB : Hid (Below H0 w W4) := HB1.out.trans ((hB2.mono HH.out.size).trans (b3.trans (hB4.mono h3.size)))
  have H4 := hide h4
  have HBB4 := hide hbb
  have HBX4 := hide hbx4
  clear hW2 hB2 hbx h2 h3 b3 hbx3 g0 g1 g2 g3 g4 g5 g6 g7 c0 c1 c2 c3' c3'' c4 f3 f4 hbb hbx4 h4 hB4 rf r4
  go_upto_region 4 with fail
  rw [← hW3]
  clear hW3
  go_upto_region 8 with fail
  rw [← hW4]
  clear hW4
  clear z0 z1 z2 z3 z4 x7 m3 mf3 hlt2
  have hk : k = 33 := by
    have hbr := ((HH.out.gl g (List.mem_of_getElem? HT.out)).body HO.out).1
    rw [hgb, hcs] at hbr
    cases hbr; rfl
  subst hk
  obtain ⟨h5, b5⟩ := WkIn.cutS (w := W4.drew) (s := { s with h := { s.h with cost := s.h.cost + 1 }, todo := g.rest }) (H4.out.below (Below.refl _ _).drew) g.cut hcut
  have HP := hide h5
  have HBP : Hid (Below H0 w (W4.drew.setCell ⟨wk, 4, none⟩ (.slice ko g.cut kc))) := HBB.out.trans (((Below.refl _ _).drew).trans b5)
  clear h5 b5
  go_wp2_with fail
  go_region
  all_goals
    go_wp2_with fail
    go_ret
    exact ⟨rfl, ⟨_, HP.out⟩, HBP.out⟩
end
end Go.Proofs.YtodpkdajbnceoaaGreatDoor
