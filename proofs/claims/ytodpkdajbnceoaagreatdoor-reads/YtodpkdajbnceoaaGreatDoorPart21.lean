import Derived.Test.YtodpkdajbnceoaaGreatDoorPart20
import Derived.Test.YtodpkdajbnceoaaGreatDoorPart09
import Derived.Lib.Builder
import Derived.Lib.AppendStr
import Derived.Lib.UnsafeStr
import Derived.Laws.Externs
import Derived.LaidEql
import Derived.MapKept
import Derived.WideLaws
set_option linter.unusedVariables false
set_option linter.unusedSimpArgs false
namespace Go.Proofs.YtodpkdajbnceoaaGreatDoor
open Go.RowKit

/-! The program's writer in memory: strings.Builder within it. -/

/-- what counts: the function that does nothing -/
def cntV : Value := .func (.func 141) #[] #[]

/-- the numbers of the variables: a map's entries -/
def entsL : Nat → List Nat → List MapEntry
  | _, [] => []
  | i, b :: l => { key := ptrV b, val := .int .i64 ((i + 1 : Nat) : Int), born := i } :: entsL (i + 1) l

structure WrIn (w : World) (wb mb n0 : Nat) (out : List UInt8) (bv : Value) (ks : List Nat) : Prop where
  cells : ∃ ad dp, (ad = .pointer none ∨ ad = ptrV wb) ∧ w.heap[wb]? = some (.cells #[ad, bv, .map (some mb), cntV, .int .i64 dp] 336 (0, 0))
  buf : w.ownsRow n0 5 1 bv out.length (Lib.byteCells out)
  map : w.heap[mb]? = some (.map (entsL 0 ks).toArray ks.length)
  nw : n0 ≤ wb
  nm : n0 ≤ mb

section
variable {w : World} {wb mb n0 : Nat} {out : List UInt8} {bv : Value} {ks : List Nat}

theorem WrIn.lt_size (h : WrIn w wb mb n0 out bv ks) : wb < w.heap.size := by obtain ⟨ad, dp, _, h⟩ := h.cells; exact (Array.getElem?_eq_some_iff.1 h).1
theorem WrIn.m_lt (h : WrIn w wb mb n0 out bv ks) : mb < w.heap.size := (Array.getElem?_eq_some_iff.1 h.map).1
theorem WrIn.c1 (h : WrIn w wb mb n0 out bv ks) : w.cell? ⟨wb, 1, none⟩ = some bv := by obtain ⟨ad, dp, _, h⟩ := h.cells; rw [cell_of_block h]; rfl
theorem WrIn.c2 (h : WrIn w wb mb n0 out bv ks) : w.cell? ⟨wb, 2, none⟩ = some (.map (some mb)) := by obtain ⟨ad, dp, _, h⟩ := h.cells; rw [cell_of_block h]; rfl
theorem WrIn.fz (h : WrIn w wb mb n0 out bv ks) (j : Nat) : w.frozen? ⟨wb, j, none⟩ = false := by obtain ⟨ad, dp, _, h⟩ := h.cells; exact fz_of h j
theorem WrIn.bne (h : WrIn w wb mb n0 out bv ks) : bv.ownBlock ≠ some wb := by
  intro e
  obtain ⟨ad, dp, _, hc⟩ := h.cells
  rcases h.buf.2 with ⟨hl, _⟩ | ⟨g, cap, cur, rfl, _, r2, _⟩
  · rw [hl] at e; cases e
  · cases e
    rw [r2] at hc
    injection hc with hc; injection hc with _ hc; cases hc
theorem WrIn.bnm (h : WrIn w wb mb n0 out bv ks) : bv.ownBlock ≠ some mb := by
  intro e
  have hc := h.map
  rcases h.buf.2 with ⟨hl, _⟩ | ⟨g, cap, cur, rfl, _, r2, _⟩
  · rw [hl] at e; cases e
  · cases e
    rw [r2] at hc
    injection hc with hc; cases hc
theorem WrIn.wnm (h : WrIn w wb mb n0 out bv ks) : wb ≠ mb := by
  rintro rfl
  obtain ⟨ad, dp, _, hc⟩ := h.cells
  rw [h.map] at hc
  injection hc with hc; cases hc

theorem WrIn.keep {w' : World} (h : WrIn w wb mb n0 out bv ks) (hb : ∀ b, (b = wb ∨ b = mb ∨ bv.ownBlock = some b) → w'.heap[b]? = w.heap[b]?) : WrIn w' wb mb n0 out bv ks := by
  obtain ⟨ad, dp, h1, h2⟩ := h.cells
  exact ⟨⟨ad, dp, h1, (hb wb (.inl rfl)).trans h2⟩, ownsRow_keep h.buf fun b e => hb b (.inr (.inr e)), (hb mb (.inr (.inl rfl))).trans h.map, h.nw, h.nm⟩

theorem WrIn.below {w' : World} (h : WrIn w wb mb n0 out bv ks) (hb : Below w.heap.size w w') : WrIn w' wb mb n0 out bv ks := by
  refine h.keep fun b e => hb.block b ?_
  rcases e with rfl | rfl | e
  · exact h.lt_size
  · exact h.m_lt
  · exact (h.buf.lt b e).2

theorem WrIn.alloc (h : WrIn w wb mb n0 out bv ks) (o : Obj) : WrIn (w.alloc o) wb mb n0 out bv ks := h.below ((Below.refl _ _).alloc (Nat.le_refl _) o)
theorem WrIn.drew (h : WrIn w wb mb n0 out bv ks) : WrIn w.drew wb mb n0 out bv ks := h.below ((Below.refl _ _).drew)

/-- the writer's own address is kept in its block -/
theorem WrIn.own (h : WrIn w wb mb n0 out bv ks) : WrIn (w.setCell ⟨wb, 0, none⟩ (ptrV wb)) wb mb n0 out bv ks ∧ WFr wb mb bv bv w (w.setCell ⟨wb, 0, none⟩ (ptrV wb)) := by
  have hne : ∀ b, b ≠ wb → (w.setCell ⟨wb, 0, none⟩ (ptrV wb)).heap[b]? = w.heap[b]? := fun b hb => Below.heap_setCell _ _ _ _ hb
  obtain ⟨ad, dp, h1, h2⟩ := h.cells
  refine ⟨⟨⟨ptrV wb, dp, .inr rfl, by rw [heap_setCell_same h2]; rfl⟩, ownsRow_keep h.buf fun b e => hne b fun q => h.bne (by rw [e, q]), (hne mb h.wnm.symm).trans h.map, h.nw, h.nm⟩, rfl, rfl, rfl, by simp [World.setCell], fun b _ _ q _ => hne b q, fun _ e => .inl e⟩

end

theorem Tryz.infoBuilder : (Tryz.prog.info? 212).map (·.size) = some 2 := by kernel_rfl
theorem Tryz.liesBuilder : liesAt Tryz.prog Tryz.prog.depth 336 (5 / Tryz.prog.cellsOf 336) 0 212 1 = true := by kernel_rfl

set_option maxRecDepth 100000 in
set_option maxHeartbeats 1000000 in
theorem copyCheck_c {w : World} {wb mb n0 : Nat} {out : List UInt8} {bv : Value} {ks : List Nat} (h : WrIn w wb mb n0 out bv ks) :
    Calls Tryz.prog 160 #[ptrV wb] w fun e w' => e = .returned (.tuple #[]) ∧ WrIn w' wb mb n0 out bv ks ∧ WFr wb mb bv bv w w' := by
  obtain ⟨ad, dp, hao, hcl⟩ := h.cells
  have hc0 : w.cell? ⟨wb, 0, none⟩ = some ad := by rw [cell_of_block hcl]; rfl
  have hsh : w.shape? wb = some (336, 5) := by simp [World.shape?, hcl]
  have hf0 := h.fz 0
  have hlt := h.lt_size
  obtain ⟨j, hj, hjs⟩ := Option.map_eq_some_iff.1 Tryz.infoBuilder
  have HO := hide h.own
  have HH := hide h
  clear hcl h
  rcases hao with e | e
  · subst e
    unfold ptrV at *
    go_enter Tryz.func160, Tryz.ntmps160
    go_wp2
    rw [Lib.run_to_unsafe w ⟨wb, 0, none⟩ Tryz.underlying210 Tryz.underlying237 hj (by rw [hjs]; decide) hsh (Nat.zero_lt_succ 4)]
    simp only [Result.andThen]
    rw [Oper.upon_value]
    go_wp2
    rw [run_callFunc_extern Tryz.func203 (by kernel_rfl) (by kernel_rfl) (by kernel_rfl) (e := Extern.AbiNoEscape.same) (by kernel_rfl)]
    rw [Lib.run_noEscape]
    simp only [Result.andThen]
    rw [Oper.upon_value]
    go_wp2
    rw [Lib.run_from_unsafe w ⟨wb, 0, none⟩ Tryz.underlying237 Tryz.underlying210 hj hsh Tryz.liesBuilder]
    simp only [Result.andThen]
    rw [Oper.upon_value]
    go_wp2
    go_end0
    exact ⟨rfl, HO.out⟩
  · subst e
    unfold ptrV at *
    go_enter Tryz.func160, Tryz.ntmps160
    go_wp2
    rw [Lib.run_neq_ptr_same w _ Tryz.underlying210 hj]
    go_wp2
    go_end0
    exact ⟨rfl, HH.out, WFr.refl _ _ _ _⟩

end Go.Proofs.YtodpkdajbnceoaaGreatDoor

namespace Go.Proofs.YtodpkdajbnceoaaGreatDoor
open Go.RowKit

/-! Bytes are written. -/

theorem run_append_str2 {P : Program} (w : World) (base : Nat) (t u ty e : TypeId) (i : TypeInfo) (ht : P.underlying t = some (.slice e)) (hu : P.underlying u = some .string) (hi : P.info? e = some i) (hz : i.zero = some (.int .u8 0))
    (hsize : i.size = 1) (hby : i.bytes = 1)
    (v : Value) (n : Nat) (xs : List Value) (hown : w.ownsRow base e 1 v n xs) (s : ByteArray)
    (h63 : n + s.size ≤ maxLen) (hbytes : n + s.size ≤ 140737488355328) (hbase : base ≤ w.heap.size) :
    ∃ v' w', (Builtin.append_ #[t, u] ty #[v, .string s]).run P w = .ok v' w' ∧ w'.ownsRow base e 1 v' (n + s.size) (xs ++ Lib.strCells s) ∧ w.grownBy w' v.ownBlock ∧
      ∀ b, v'.ownBlock = some b → v.ownBlock = some b ∨ w.heap.size ≤ b := by
  obtain ⟨v', w', hr, ho, hg, _⟩ := Lib.run_append_own_string (P := P) w base t u ty e i ht hu hi hz hsize hby v n xs hown s h63 hbytes hbase
  refine ⟨v', w', hr, ho, hg, ?_⟩
  have hsmall : n + s.size ≤ 9223372036854775807 := by simp only [maxLen] at h63; omega
  rcases hown.2 with ⟨rfl, rfl⟩ | ⟨g, cap, cur, rfl, hbg, hgg, hnc, hcm, hcs, htake⟩
  · have hx : xs = [] := List.eq_nil_of_length_eq_zero (by simpa using hown.1)
    subst hx
    obtain ⟨v2, w2, hr2, ho2, _, _⟩ := Lib.run_append_own_string (P := P) w w.heap.size t u ty e i ht hu hi hz hsize hby (.slice none 0 0) 0 [] (World.ownsRow_nil w _ e 1) s h63 hbytes (Nat.le_refl _)
    rw [hr] at hr2
    cases hr2
    exact fun b hb => .inr (ho2.lt b hb).1
  · by_cases hroom : n + s.size ≤ cap
    · have hr2 := Lib.run_append_room_string (P := P) w t u ty e i ht hu hi hsize g n cap cur hgg s hroom (by omega)
      rw [hr] at hr2
      cases hr2
      exact fun b hb => .inl hb
    · have hr2 := Lib.run_append_grow_string (P := P) w t u ty e i (.int .u8 0) ht hu hi hz ⟨g, 0, none⟩ n cap xs (by rw [hsize]; exact hown.1) (hown.cells rfl) s (by omega) (by omega) (by rw [hby]; exact growslice_fits (by omega) (by omega))
      rw [hr] at hr2
      cases hr2
      intro b hb
      cases hb
      exact .inr (Nat.le_refl _)

theorem wpList_append_str2 {P : Program} {w : World} {ops : Array Oper} {rest : List Oper} {o : Oper} {a : Act} {Q : Exit → Act → World → Prop} (hgd : o.guard = none) (sl x : Operand) (t u : TypeId)
    (ho : o.op = .call { callee := .builtin .append, args := #[sl, x], argTypes := #[t, u] })
    (base : Nat) (e : TypeId) (i : TypeInfo) (ht : P.underlying t = some (.slice e)) (hu : P.underlying u = some .string) (hi : P.info? e = some i) (hz : i.zero = some (.int .u8 0))
    (hsize : i.size = 1) (hby : i.bytes = 1)
    (v : Value) (n : Nat) (xs : List Value) (hs : a.eval sl = v) (hown : w.ownsRow base e 1 v n xs) (s : ByteArray) (hx : a.eval x = .string s)
    (h63 : n + s.size ≤ maxLen) (hbytes : n + s.size ≤ 140737488355328) (hbase : base ≤ w.heap.size)
    (h : ∀ v' w', w'.ownsRow base e 1 v' (n + s.size) (xs ++ Lib.strCells s) → w.grownBy w' v.ownBlock → (∀ b, v'.ownBlock = some b → v.ownBlock = some b ∨ w.heap.size ≤ b) → wpList P ops Q rest (a.put o.dst v') w') : wpList P ops Q (o :: rest) a w := by
  refine wpList_plain hgd fun K hK => ?_
  obtain ⟨v', w', hr, h2, h3, h4⟩ := run_append_str2 (P := P) w base t u o.type e i ht hu hi hz hsize hby v n xs hown s h63 hbytes hbase
  unfold Oper.wp execOp
  simp only [ho, resolve, invoke, builtin, Sem.run_bind, Sem.run_pure, Result.andThen_ok, List.map_toArray, List.map_cons, List.map_nil, hs, hx, hr]
  exact hK _ _ (h v' w' h2 h3 h4)

/-- behind an append, the new buffer is kept in the writer -/
theorem WrIn.put {w w1 w2 : World} {wb mb n0 : Nat} {out more : List UInt8} {bv bv' : Value} {ks : List Nat} (h : WrIn w1 wb mb n0 out bv ks) (hf : WFr wb mb bv bv w w1)
    (ho : w2.ownsRow n0 5 1 bv' (out.length + more.length) (Lib.byteCells out ++ Lib.byteCells more)) (hg : w1.grownBy w2 bv.ownBlock) (hn : ∀ b, bv'.ownBlock = some b → bv.ownBlock = some b ∨ w1.heap.size ≤ b) :
    WrIn (w2.setCell ⟨wb, 1, none⟩ bv') wb mb n0 (out ++ more) bv' ks ∧ WFr wb mb bv bv' w (w2.setCell ⟨wb, 1, none⟩ bv') := by
  have hne : ∀ b, b ≠ wb → (w2.setCell ⟨wb, 1, none⟩ bv').heap[b]? = w2.heap[b]? := fun b hb => Below.heap_setCell _ _ _ _ hb
  obtain ⟨ad, dp, h1, h2⟩ := h.cells
  have hw2 : w2.heap[wb]? = some (.cells #[ad, bv, .map (some mb), cntV, .int .i64 dp] 336 (0, 0)) := (hg.block wb h.lt_size (fun e => h.bne e.symm)).trans h2
  have hm2 : w2.heap[mb]? = w1.heap[mb]? := hg.block mb h.m_lt (fun e => h.bnm e.symm)
  have hbw : bv'.ownBlock ≠ some wb := fun e => (hn wb e).elim h.bne (fun q => by have := h.lt_size; omega)
  refine ⟨⟨⟨ad, dp, h1, by rw [heap_setCell_same hw2]; rfl⟩, ?_, (hne mb h.wnm.symm).trans (hm2.trans h.map), h.nw, h.nm⟩, hf.trans ⟨hg.os, hg.tape, hg.output, ?_, fun b hb q1 q2 q3 => ?_, hn⟩⟩
  · rw [List.length_append, Lib.byteCells, List.map_append]
    exact ownsRow_keep ho fun b e => hne b fun q => hbw (by rw [e, q])
  · have := hg.size; simpa [World.setCell] using this
  · rw [hne b q2]; exact hg.block b hb (fun e => q3 e.symm)

theorem WrIn.behind {w1 w2 : World} {wb mb n0 : Nat} {out : List UInt8} {bv : Value} {ks : List Nat} (h : WrIn w1 wb mb n0 out bv ks) (hg : w1.grownBy w2 bv.ownBlock) :
    w2.cell? ⟨wb, 1, none⟩ = some bv ∧ w2.frozen? ⟨wb, 1, none⟩ = false ∧ wb < w2.heap.size := by
  obtain ⟨ad, dp, h1, h2⟩ := h.cells
  have hw2 : w2.heap[wb]? = some (.cells #[ad, bv, .map (some mb), cntV, .int .i64 dp] 336 (0, 0)) := (hg.block wb h.lt_size (fun e => h.bne e.symm)).trans h2
  exact ⟨by rw [cell_of_block hw2]; rfl, fz_of hw2 1, (Array.getElem?_eq_some_iff.1 hw2).1⟩

theorem Tryz.infoByte : (Tryz.prog.info? 5).map (fun i => (i.zero, i.size, i.bytes)) = some (some (.int .u8 0), 1, 1) := by kernel_rfl

set_option maxRecDepth 100000 in
set_option maxHeartbeats 1000000 in
theorem writeString_c {w : World} {wb mb n0 : Nat} {out : List UInt8} {bv : Value} {ks : List Nat} (h : WrIn w wb mb n0 out bv ks) (s : ByteArray) (hs : out.length + s.size ≤ 140737488355328) :
    Calls Tryz.prog 114 #[ptrV wb, .string s] w fun e w' => ∃ v, e = .returned v ∧ ∃ bv', WrIn w' wb mb n0 (out ++ s.data.toList) bv' ks ∧ WFr wb mb bv bv' w w' := by
  obtain ⟨i0, hi, hz0, hz1, hz2⟩ := info_parts Tryz.infoByte
  have HC := hide (copyCheck_c h)
  have hlt := h.lt_size
  have hnw := h.nw
  clear h
  unfold ptrV at *
  go_enter Tryz.func114, Tryz.ntmps114
  go_wp2_with (first | (go_at_call 160; refine HC.out.mono ?_; rintro e w1 ⟨rfl, h1, hf1⟩; have c1 := h1.c1; have f1 := h1.fz 1; have hw1 := hf1.size; have hown := h1.buf) | (at_builtin; refine wpList_append_str2 rfl _ _ 115 9 rfl n0 5 i0 Tryz.underlying115 Tryz.underlying9 hi hz0 hz1 hz2 bv _ _ rfl hown s rfl ?c1 hs ?c2 ?_))
  case c1 => unfold maxLen; omega
  case c2 => omega
  intro v' w2 ho hg hn
  have hP := hide (h1.put hf1 (more := s.data.toList) ho hg hn)
  obtain ⟨q1, q2, q3⟩ := h1.behind hg
  obtain ⟨ao, cp, hvf⟩ := row_form ho
  clear hown
  subst hvf
  go_wp2
  go_ret2
  exact ⟨_, rfl, _, hP.out⟩

set_option maxRecDepth 100000 in
set_option maxHeartbeats 1000000 in
theorem writeByte_c {w : World} {wb mb n0 : Nat} {out : List UInt8} {bv : Value} {ks : List Nat} (h : WrIn w wb mb n0 out bv ks) (c : UInt8) (hs : out.length + 1 ≤ 140737488355328) :
    Calls Tryz.prog 161 #[ptrV wb, .int .u8 c.toNat] w fun e w' => ∃ v, e = .returned v ∧ ∃ bv', WrIn w' wb mb n0 (out ++ [c]) bv' ks ∧ WFr wb mb bv bv' w w' := by
  obtain ⟨i0, hi, hz0, hz1, hz2⟩ := info_parts Tryz.infoByte
  have HC := hide (copyCheck_c h)
  have hlt := h.lt_size
  have hnw := h.nw
  clear h
  unfold ptrV at *
  go_enter Tryz.func161, Tryz.ntmps161
  go_wp2_with (first | (go_at_call 160; refine HC.out.mono ?_; rintro e w1 ⟨rfl, h1, hf1⟩; have c1 := h1.c1; have f1 := h1.fz 1; have hw1 := hf1.size; have hown := h1.buf) | (at_builtin; refine wpList_append_own2 rfl _ _ 115 rfl n0 5 i0 (.int .u8 0) 1 1 Tryz.underlying115 hi hz0 hz1 hz2 rfl (by decide) bv _ _ rfl (hown.alloc _) _ 1 1 [.int .u8 c.toNat] rfl rfl ?c1 ?c2 ?c3 ?c4 ?c5 ?_))
  case c1 => exact cell_one_new _ _ _
  case c2 => intro u hu; simp at hu; subst hu; rfl
  case c3 => unfold maxLen; omega
  case c4 => omega
  case c5 => simp; omega
  intro v' w2 ho hg hn
  have hP := hide ((h1.alloc _).put (hf1.trans (WFr.of_below ((Below.refl _ _).alloc (Nat.le_refl _) _))) (more := [c]) ho hg (by simpa using hn))
  obtain ⟨q1, q2, q3⟩ := (h1.alloc _).behind hg
  obtain ⟨ao, cp, hvf⟩ := row_form ho
  clear hown
  subst hvf
  go_wp2
  go_ret
  exact ⟨_, rfl, _, hP.out⟩

end Go.Proofs.YtodpkdajbnceoaaGreatDoor

namespace Go.Proofs.YtodpkdajbnceoaaGreatDoor
open Go.RowKit

/-! The numbers of variables: a map by pointers. -/

theorem Tryz.underlyingVarPtr : Tryz.prog.underlying 267 = some (.pointer 269) := by kernel_rfl
theorem Tryz.underlyingNums : Tryz.prog.underlying 334 = some (.map 267 3) := by kernel_rfl
theorem Tryz.infoVar : (Tryz.prog.info? 269).map (·.size) = some 4 := by kernel_rfl
theorem Tryz.zeroInt (w : World) : (zeroValue 3).run Tryz.prog w = .ok (.int .i64 0) w := by
  have h : (Tryz.prog.info? 3).map (·.zero) = some (some (.int .i64 0)) := by kernel_rfl
  obtain ⟨j, hj, hz⟩ := Option.map_eq_some_iff.1 h
  simp [zeroValue, typeInfo, hj, hz]

theorem run_eq_ptr {w : World} {b c : Nat} {n m : Array Value} (hb : w.heap[b]? = some (.cells n 269 (0, 0))) (hc : w.heap[c]? = some (.cells m 269 (0, 0))) :
    (Op.equal 267 (ptrV b) (ptrV c)).run Tryz.prog w = .ok (decide (b = c)) w := by
  obtain ⟨j, hj, hjs⟩ := Option.map_eq_some_iff.1 Tryz.infoVar
  have hz : j.size ≠ 0 := by rw [hjs]; decide
  have h : ∀ d : Nat, (Op.equalIn (d + 1) 267 (ptrV b) (ptrV c)).run Tryz.prog w = .ok (decide (b = c)) w := fun d => by
    by_cases e : b = c
    · subst e
      simp [ptrV, Op.equalIn, run_underlying Tryz.underlyingVarPtr, sizeOf, typeInfo, hj, run_sameAddr_same]
    · have hne : (⟨b, 0, none⟩ : Addr) ≠ ⟨c, 0, none⟩ := fun q => e (by injection q)
      simp [ptrV, Op.equalIn, run_underlying Tryz.underlyingVarPtr, sizeOf, typeInfo, hj, hz, run_sameAddr_other w hne hb hc, e]
  exact h 9999

theorem run_findAsking {w : World} {b : Nat} {n : Array Value} (hb : w.heap[b]? = some (.cells n 269 (0, 0))) : ∀ (ks : List Nat) (i j : Nat), VarBlks w ks →
    (Instr.findAsking 267 (ptrV b) (entsL i ks) j).run Tryz.prog w = .ok ((ks.idxOf? b).map fun q => (j + q, .int .i64 ((i + q + 1 : Nat) : Int))) w
  | [], i, j, _ => by simp [entsL, Instr.findAsking]
  | c :: l, i, j, hk => by
    obtain ⟨m, _, hm⟩ := hk c (List.mem_cons_self)
    have ih := run_findAsking hb l (i + 1) (j + 1) (fun d hd => hk d (List.mem_cons_of_mem _ hd))
    have he := run_eq_ptr hb hm
    rw [entsL, Instr.findAsking]
    by_cases e : b = c
    · subst e
      simp only [Sem.run_bind, he, Result.andThen_ok, decide_true, if_true, Sem.run_pure]
      rw [show (b :: l).idxOf? b = some 0 by simp [List.idxOf?_cons]]
      rfl
    · have e' : ¬ c = b := fun q => e q.symm
      simp only [Sem.run_bind, he, Result.andThen_ok, e, decide_false, Bool.false_eq_true, if_false, ih]
      have h1 : (c :: l).idxOf? b = (l.idxOf? b).map (· + 1) := by simp [List.idxOf?_cons, e']
      rw [h1, Option.map_map]
      have h2 : (fun q => (j + 1 + q, Value.int .i64 ((i + 1 + q + 1 : Nat) : Int))) = (fun q => (j + q, Value.int .i64 ((i + q + 1 : Nat) : Int))) ∘ (· + 1) := by
        funext q
        have e1 : j + 1 + q = j + (q + 1) := by omega
        have e2 : i + 1 + q + 1 = i + (q + 1) + 1 := by omega
        simp only [Function.comp, e1, e2]
      rw [h2]

theorem run_findKey {w : World} {b : Nat} {n : Array Value} (hb : w.heap[b]? = some (.cells n 269 (0, 0))) (ks : List Nat) (hk : VarBlks w ks) :
    (Instr.findKey 267 (ptrV b) (entsL 0 ks)).run Tryz.prog w = .ok ((ks.idxOf? b).map fun q => (q, .int .i64 ((q + 1 : Nat) : Int))) w := by
  have h := run_findAsking hb ks 0 0 hk
  simp only [Nat.zero_add] at h
  cases ks with
  | nil => simp [Instr.findKey, run_underlying Tryz.underlyingVarPtr, entsL, Instr.findNow]
  | cons c l =>
    have hn : Instr.findNow (.pointer 269) (ptrV b) (entsL 0 (c :: l)) 0 = none := by simp [entsL, Instr.findNow, Instr.sameNow]
    simp only [Instr.findKey, Sem.run_bind, run_underlying Tryz.underlyingVarPtr, Result.andThen_ok, hn]
    exact h

theorem run_checkKey {w : World} (e : Bool) (b : Nat) : (Instr.checkKey e 10000 267 (ptrV b)).run Tryz.prog w = .ok () w := by
  have h : ∀ k : Nat, (Instr.checkKey e (k + 1) 267 (ptrV b)).run Tryz.prog w = .ok () w := fun k => by
    rw [Instr.checkKey]
    simp [run_underlying Tryz.underlyingVarPtr, ptrV]
  exact h 9999

theorem run_lookup_c {w : World} {mb b : Nat} {n : Array Value} {ks : List Nat} (hm : w.heap[mb]? = some (.map (entsL 0 ks).toArray ks.length)) (hb : w.heap[b]? = some (.cells n 269 (0, 0))) (hk : VarBlks w ks) :
    (Instr.lookup 334 (.map (some mb)) (ptrV b) true).run Tryz.prog w = .ok (.tuple #[.int .i64 (((ks.idxOf? b).map fun q => ((q + 1 : Nat) : Int)).getD 0), .bool (ks.idxOf? b).isSome]) w := by
  have hf := run_findKey hb ks hk
  simp only [Instr.lookup, Sem.run_bind, run_underlying Tryz.underlyingNums, Result.andThen_ok, MapKept.run_getObj_map hm, Sem.run_pure, run_checkKey, hf]
  cases ks.idxOf? b with
  | none => simp only [Option.map_none, Sem.run_bind, Tryz.zeroInt, Result.andThen_ok, Sem.run_pure]; simp
  | some q => simp

theorem entsL_snoc (b : Nat) : ∀ (i : Nat) (ks : List Nat), entsL i (ks ++ [b]) = entsL i ks ++ [{ key := ptrV b, val := .int .i64 ((i + ks.length + 1 : Nat) : Int), born := i + ks.length }]
  | i, [] => by simp [entsL]
  | i, c :: l => by
    have e1 : i + 1 + l.length = i + (c :: l).length := by simp; omega
    rw [List.cons_append, entsL, entsL_snoc b (i + 1) l, entsL, e1]
    rfl

theorem entsL_len : ∀ (i : Nat) (ks : List Nat), (entsL i ks).length = ks.length
  | _, [] => rfl
  | i, _ :: l => by simp [entsL, entsL_len (i + 1) l]

theorem run_update_c {w : World} {mb b : Nat} {n : Array Value} {ks : List Nat} (hm : w.heap[mb]? = some (.map (entsL 0 ks).toArray ks.length)) (hb : w.heap[b]? = some (.cells n 269 (0, 0))) (hk : VarBlks w ks) (hq : ks.idxOf? b = none) :
    (Instr.mapUpdate 334 (.map (some mb)) (ptrV b) (.int .i64 ((ks.length : Int) + 1))).run Tryz.prog w = .ok () { w with heap := w.heap.setIfInBounds mb (.map (entsL 0 (ks ++ [b])).toArray (ks.length + 1)) } := by
  have hf := run_findKey hb ks hk
  rw [hq] at hf
  simp only [Instr.mapUpdate, Sem.run_bind, run_underlying Tryz.underlyingNums, Result.andThen_ok, MapKept.run_getObj_map hm, run_checkKey, hf, Option.map_none]
  rw [MapKept.run_setObj_map _ hm, entsL_snoc]
  simp

/-- the variable is numbered -/
theorem WrIn.num {w : World} {wb mb n0 b : Nat} {out : List UInt8} {bv : Value} {ks : List Nat} (h : WrIn w wb mb n0 out bv ks) :
    WrIn { w with heap := w.heap.setIfInBounds mb (.map (entsL 0 (ks ++ [b])).toArray (ks.length + 1)) } wb mb n0 out bv (ks ++ [b]) ∧ WFr wb mb bv bv w { w with heap := w.heap.setIfInBounds mb (.map (entsL 0 (ks ++ [b])).toArray (ks.length + 1)) } := by
  have hne : ∀ c, c ≠ mb → ({ w with heap := w.heap.setIfInBounds mb (.map (entsL 0 (ks ++ [b])).toArray (ks.length + 1)) } : World).heap[c]? = w.heap[c]? := fun c hc => by
    simp only [Array.getElem?_setIfInBounds]
    rw [if_neg (fun e => hc e.symm)]
  obtain ⟨ad, dp, h1, h2⟩ := h.cells
  refine ⟨⟨⟨ad, dp, h1, (hne wb h.wnm).trans h2⟩, ownsRow_keep h.buf fun c e => hne c fun q => h.bnm (by rw [e, q]), ?_, h.nw, h.nm⟩, rfl, rfl, rfl, by simp, fun c _ q _ _ => hne c q, fun _ e => .inl e⟩
  simp only [Array.getElem?_setIfInBounds]
  rw [if_pos trivial, if_pos h.m_lt, List.length_append]
  rfl

def numOf (ks : List Nat) (b : Nat) : Nat × List Nat := match ks.idxOf? b with | some i => (i + 1, ks) | none => (ks.length + 1, ks ++ [b])

set_option maxRecDepth 100000 in
set_option maxHeartbeats 1000000 in
theorem number_w {w : World} {wb mb n0 b : Nat} {out : List UInt8} {bv : Value} {ks : List Nat} (h : WrIn w wb mb n0 out bv ks) (hb : VarBlks w (b :: ks)) (hsm : ks.length ≤ 100000) :
    Calls Tryz.prog 184 #[ptrV wb, ptrV b] w fun e w' => e = .returned (.int .i64 ((numOf ks b).1 : Nat)) ∧ WrIn w' wb mb n0 out bv (numOf ks b).2 ∧ WFr wb mb bv bv w w' := by
  obtain ⟨n, _, hn⟩ := hb b List.mem_cons_self
  have hk : VarBlks w ks := fun c hc => hb c (List.mem_cons_of_mem _ hc)
  have hlk := run_lookup_c h.map hn hk
  have hup := run_update_c h.map hn hk
  have c2 := h.c2
  have HH := hide h
  have HN := hide (h.num (b := b))
  have hlt := h.lt_size
  have hlen : (Builtin.len_ #[334] 3 #[.map (some mb)]).run Tryz.prog w = .ok (.int .i64 ks.length) w := by
    have := run_len_map (P := Tryz.prog) w 334 3 mb _ _ (by kernel_rfl) h.map
    simpa [entsL_len, goInt] using this
  clear h hb hk hn
  unfold ptrV at *
  cases hq : ks.idxOf? b with
  | some i =>
    have HE : Hid (numOf ks b = (i + 1, ks)) := by unfold Hid numOf; rw [hq]
    rw [hq] at hlk
    clear hup hq
    go_enter Tryz.func184, Tryz.ntmps184
    go_wp2
    go_ret
    rw [HE.out]
    exact ⟨rfl, HH.out, WFr.refl _ _ _ _⟩
  | none =>
    have HE : Hid (numOf ks b = (ks.length + 1, ks ++ [b])) := by unfold Hid numOf; rw [hq]
    have hup := hup hq
    rw [hq] at hlk
    clear hq
    go_enter Tryz.func184, Tryz.ntmps184
    go_wp2
    go_ret
    rw [HE.out]
    exact ⟨rfl, HN.out⟩

end Go.Proofs.YtodpkdajbnceoaaGreatDoor

namespace Go.Proofs.YtodpkdajbnceoaaGreatDoor
open Go.RowKit

/-! What was written is told; a new writer. -/

set_option maxRecDepth 100000 in
set_option maxHeartbeats 1000000 in
theorem newWriter_c (w : World) :
    Calls Tryz.prog 140 #[cntV] w fun e w' => ∃ wb mb, e = .returned (ptrV wb) ∧ WrIn w' wb mb w.heap.size [] (.slice none 0 0) [] ∧ Below w.heap.size w w' := by
  have hmm : ∀ w : World, (Instr.makeMap 334 none).run Tryz.prog w = .ok (.map (some w.heap.size)) (w.alloc (.map #[] 0)) := fun w => rfl
  unfold ptrV cntV
  go_enter Tryz.func140, Tryz.ntmps140
  go_wp2
  go_ret
  refine ⟨w.heap.size + 1, w.heap.size, rfl, ⟨⟨_, 0, .inl rfl, ?_⟩, World.ownsRow_nil _ _ _ _, ?_, by omega, Nat.le_refl _⟩, ?_⟩
  · have := heap_alloc_new (w.alloc (.map #[] 0)) (.cells #[.pointer none, .slice none 0 0, .map (some w.heap.size), cntV, .int .i64 0] 336)
    rwa [World.size_alloc] at this
  · rw [Below.heap_alloc _ _ _ (by simp)]
    exact heap_alloc_new w _
  · exact ((Below.refl _ _).alloc (Nat.le_refl _) _).alloc (by simp) _

theorem Tryz.cellsByte : Tryz.prog.cellsOf 5 = 1 := by kernel_rfl

set_option maxRecDepth 100000 in
set_option maxHeartbeats 1000000 in
theorem builderString_c {w : World} {wb mb n0 : Nat} {out : List UInt8} {bv : Value} {ks : List Nat} (h : WrIn w wb mb n0 out bv ks) (hn : n0 ≤ w.heap.size) (hsm : out.length ≤ 140737488355328) :
    Calls Tryz.prog 120 #[ptrV wb] w fun e w' => e = .returned (.string (B out)) ∧ Below n0 w w' := by
  have c1 : w.drew.cell? ⟨wb, 1, none⟩ = some bv := h.drew.c1
  have c0 : w.cell? ⟨wb, 1, none⟩ = some bv := h.c1
  have hlt := h.lt_size
  have hUS : ∀ (W : World) (q : Option Addr), (Builtin.unsafeString_ #[311, 3] 9 #[.pointer q, .int .i64 0]).run Tryz.prog W = .ok (.string .empty) W := fun W q => Lib.run_unsafeString_none W _ _ _ q
  rcases h.buf.2 with ⟨hl, h0⟩ | ⟨g, cap, cur, hbv, hg0, hg, hnc, hcm, hcs, htake⟩
  · have ho : out = [] := List.eq_nil_of_length_eq_zero h0
    subst ho hl
    have hSD : (Builtin.unsafeSliceData_ #[115] 311 #[.slice none 0 0]).run Tryz.prog w.drew = .ok (.pointer none) w.drew := rfl
    clear h
    unfold ptrV
    go_enter Tryz.func120, Tryz.ntmps120
    go_wp2
    go_region
    all_goals (go_wp2; go_ret; exact ⟨rfl, Below.drew (Below.refl n0 w)⟩)
  · subst hbv
    by_cases hout : out = []
    · subst hout
      simp only [List.length_nil] at c1 c0
      by_cases hcap : cap = 0
      · subst hcap
        have hSD : (Builtin.unsafeSliceData_ #[115] 311 #[.slice (some ⟨g, 0, none⟩) 0 0]).run Tryz.prog w.drew = .ok (.pointer (some ⟨w.drew.heap.size, 0, none⟩)) (w.drew.alloc (.view ⟨g, 0, none⟩ 5)) :=
          Lib.run_unsafeSliceData_zero w.drew _ _ 5 Tryz.underlying311 ⟨g, 0, none⟩ 0 (5, cur.size) (by have hg' : w.drew.heap[g]? = some (.cells cur 5 (0, 0)) := hg; simp [World.shape?, hg'])
        have c2 : (w.drew.alloc (.view ⟨g, 0, none⟩ 5)).cell? ⟨wb, 1, none⟩ = some (.slice (some ⟨g, 0, none⟩) 0 0) := (h.drew.alloc _).c1
        have c3 : (w.alloc (.view ⟨g, 0, none⟩ 5)).drew.cell? ⟨wb, 1, none⟩ = some (.slice (some ⟨g, 0, none⟩) 0 0) := c2
        clear h
        unfold ptrV
        go_enter Tryz.func120, Tryz.ntmps120
        go_wp2
        go_region
        all_goals (go_wp2; go_ret; exact ⟨rfl, (Below.drew (Below.refl n0 w)).alloc hn _⟩)
      · have hSD : (Builtin.unsafeSliceData_ #[115] 311 #[.slice (some ⟨g, 0, none⟩) 0 cap]).run Tryz.prog w.drew = .ok (.pointer (some ⟨g, 0, none⟩)) w.drew :=
          Lib.run_unsafeSliceData_row _ _ _ _ _ _ hcap
        clear h hcap hnc
        unfold ptrV
        go_enter Tryz.func120, Tryz.ntmps120
        go_wp2
        go_region
        all_goals (go_wp2; go_ret; exact ⟨rfl, Below.drew (Below.refl n0 w)⟩)
    · have hl0 : out.length ≠ 0 := fun e => hout (List.eq_nil_of_length_eq_zero e)
      have hSD : (Builtin.unsafeSliceData_ #[115] 311 #[.slice (some ⟨g, 0, none⟩) out.length cap]).run Tryz.prog w.drew = .ok (.pointer (some ⟨g, 0, none⟩)) w.drew :=
        Lib.run_unsafeSliceData_row _ _ _ _ _ _ (by omega)
      have hU : (Builtin.unsafeString_ #[311, 3] 9 #[.pointer (some ⟨g, 0, none⟩), .int .i64 out.length]).run Tryz.prog w.drew = .ok (.string ⟨out.toArray⟩) (w.drew.freeze ⟨g, 0, none⟩ out.length) := by
        refine Lib.run_unsafeString_row w.drew _ _ _ 5 Tryz.underlying311 Tryz.cellsByte g cur.size (by have hg' : w.drew.heap[g]? = some (.cells cur 5 (0, 0)) := hg; simp [World.shape?, hg']) out hout (by omega) (by omega) fun j x hx => ?_
        exact h.drew.buf.cells (g := g) rfl j (.int .u8 x.toNat) (by simp [Lib.byteCells, hx])
      clear h hl0 hnc
      unfold ptrV
      go_enter Tryz.func120, Tryz.ntmps120
      go_wp2
      go_region
      all_goals (go_wp2; go_ret; exact ⟨rfl, Lib.below_freeze (Below.drew (Below.refl n0 w)) (p := ⟨g, 0, none⟩) hg0 _⟩)

end Go.Proofs.YtodpkdajbnceoaaGreatDoor
