import Derived.Test.YtodpkdajbnceoaaGreatDoorPart03
set_option linter.all false
set_option maxHeartbeats 1000000
set_option maxRecDepth 100000
namespace Go.Proofs.YtodpkdajbnceoaaGreatDoor
open Go.RowKit
def okL (w0 : World) (bp : Nat) (vv v : Value) (b : Nat) : Prop := w0.heap.size ≤ b ∧ b ≠ bp ∧ vv.ownBlock ≠ some b ∧ v.ownBlock ≠ some b
def Shapes (n : Nat) (cs : List Value) : Prop := ∀ j, j < n → Shape5 ((cs.drop (j * 5)).take 5)
theorem Shapes.snoc {n : Nat} {cs ds : List Value} (h : Shapes n cs) (hl : cs.length = n * 5) (hd : Shape5 ds) : Shapes (n + 1) (cs ++ ds) := by
  intro j hj
  have h5 : ds.length = 5 := by obtain ⟨_, _, _, _, _, _, _, rfl⟩ := hd; rfl
  by_cases e : j = n
  · subst e
    rw [← hl, List.drop_left, List.take_of_length_le (by omega)]; exact hd
  · have hj' : j < n := by omega
    rw [List.drop_append_of_le_length (by omega), List.take_append_of_le_length (by simp; omega)]
    exact h j hj'
structure RowAt (w0 : World) (bp : Nat) (toks : List Tok) (lv vv : Value) (st : PS) (v : Value) (wr : World) (cs : List Value) (n : Nat) (vv1 : Value) (st1 : PS) : Prop where
  P : PIn wr bp toks lv vv1 st1
  fr : Fr bp vv vv1 w0 wr
  deep : st1.deep = st.deep
  own : wr.ownsRow w0.heap.size 125 5 v n cs
  vne : v.ownBlock = none ∨ vv1.ownBlock ≠ v.ownBlock
  small : n ≤ 2002
  shapes : Shapes n cs
  bpold : bp < w0.heap.size
  lvold : ∀ b, lv.ownBlock = some b → b < w0.heap.size
def RowFin (w0 : World) (bp : Nat) (vv1 : Value) (st : PS) (v : Value) (wr : World) (cs : List Value) (n : Nat) (st1 : PS) : R (List Ex) → Prop
  | .ok (l, s') => st1.err = 0 ∧ st1.i = s'.1 ∧ st1.vars = s'.2 ∧ st.i ≤ s'.1 ∧ s'.2.length ≤ 12 ∧ n = l.length ∧ 0 < n ∧ ERepL wr (okL w0 bp vv1 v) l cs
  | .error (er, a) => st1.err = er ∧ st1.at_ = a ∧ er ≠ 0
def RowRel (w0 : World) (bp : Nat) (toks : List Tok) (lv vv : Value) (st : PS) (ex : St → R Ex) (total : R (List Ex)) (g : Nat) (v m : Value) (wr : World) : Prop :=
  ∃ cs n vv1 st1, RowAt w0 bp toks lv vv st v wr cs n vv1 st1 ∧
    ((∃ f acc, m = .bool true ∧ n = acc.length ∧ n ≤ st1.i ∧ st1.err = 0 ∧ st1.vars.length ≤ 12 ∧ st.i ≤ st1.i ∧ toks.length - st1.i + 1 ≤ f ∧ toks.length - st1.i + 1 ≤ g ∧
        rowOf toks ex f acc (st1.i, st1.vars) = total ∧ ERepL wr (okL w0 bp vv1 v) acc cs) ∨
     (m = .bool false ∧ RowFin w0 bp vv1 st v wr cs n st1 total))
theorem row_start {w0 : World} {bp : Nat} {toks : List Tok} {lv vv : Value} {st : PS} {ex : St → R Ex} {total : R (List Ex)} (h : PIn w0 bp toks lv vv st) (he : st.err = 0) (hv : st.vars.length ≤ 12) (ht : rowOf toks ex (toks.length + 1) [] (st.i, st.vars) = total) :
    RowRel w0 bp toks lv vv st ex total (toks.length + 1) (.slice none 0 0) (.bool true) w0 :=
  ⟨[], 0, vv, st, ⟨h, Fr.refl _ _ _, rfl, World.ownsRow_nil _ _ _ _, .inl rfl, by omega, fun j hj => absurd hj (by omega), h.lt_size, fun b e => h.blt b (.inr (.inl e))⟩,
    .inl ⟨toks.length + 1, [], rfl, rfl, by omega, he, hv, Nat.le_refl _, by omega, by omega, ht, .nil⟩⟩
theorem own_fr {w w' : World} {bp base : Nat} {vv vv' v : Value} {T : TypeId} {sz n : Nat} {xs : List Value} (h : w.ownsRow base T sz v n xs) (hf : Fr bp vv vv' w w') (h1 : v.ownBlock ≠ some bp) (h2 : v.ownBlock = none ∨ vv.ownBlock ≠ v.ownBlock) : w'.ownsRow base T sz v n xs := by
  refine ⟨h.1, ?_⟩
  rcases h.2 with hn | ⟨g, cap, cur, rfl, r1, r2, r3⟩
  · exact .inl hn
  · refine .inr ⟨g, cap, cur, rfl, r1, ?_, r3⟩
    rw [hf.block g (Array.getElem?_eq_some_iff.1 r2).1 (fun e => h1 (by rw [e]; rfl)) (fun e => by rcases h2 with q | q; cases q; exact q e)]
    exact r2
theorem PIn.grown {w w' : World} {bp : Nat} {toks : List Tok} {lv vv : Value} {st : PS} {row : Option Nat} (h : PIn w bp toks lv vv st) (hg : w.grownBy w' row) (h1 : row ≠ some bp) (h2 : ∀ b, lv.ownBlock = some b → row ≠ some b) (h3 : ∀ b, vv.ownBlock = some b → row ≠ some b) : PIn w' bp toks lv vv st :=
  h.keep fun b e => hg.block b (h.blt b e) (fun q => by rcases e with e | e | e; exact h1 (by rw [← q, e]); exact h2 b e q.symm; exact h3 b e q.symm)
theorem row_step {w0 : World} {bp : Nat} {toks : List Tok} {lv vv : Value} {st : PS} {ex : St → R Ex} {total : R (List Ex)} {gk : Nat} {v v' : Value} {wr w4 w5 w6 : World} {cs ds : List Value} {n f : Nat} {vv1 vv2 : Value} {st1 st2 : PS} {acc : List Ex} {o1 o2 : Obj} {b : Bool}
    (hg : GoodToks toks) (hR : RowAt w0 bp toks lv vv st v wr cs n vv1 st1) (hn : n = acc.length) (hni : n ≤ st1.i) (hi : st.i ≤ st1.i) (hf : toks.length - st1.i + 1 ≤ f) (hgk : toks.length - st1.i + 1 ≤ gk) (hrow : rowOf toks ex f acc (st1.i, st1.vars) = total) (hE : ERepL wr (okL w0 bp vv1 v) acc cs)
    (hsh : Shape5 ds) (hfr : Fr bp vv1 vv2 wr w4) (hd : st2.deep = st1.deep) (hok : ErOk (ex (st1.i, st1.vars)) st1 wr w4 bp vv2 st2 ds)
    (ho : w5.ownsRow w0.heap.size 125 5 v' (n + 1) (cs ++ ds)) (hgr : ((w4.alloc o1).alloc o2).grownBy w5 v.ownBlock) (hnw : ∀ b, v'.ownBlock = some b → v.ownBlock = some b ∨ w4.heap.size + 1 + 1 ≤ b)
    (hb : b = isB st2 (tk toks st2.i) (B [44])) (hP6 : PIn w6 bp toks lv vv2 (if b then st2.pass else st2)) (hfr6 : Fr bp vv2 vv2 w5 w6) (hP4 : PIn w4 bp toks lv vv2 st2) :
    ∃ g', g' < gk ∧ RowRel w0 bp toks lv vv st ex total g' v' (.bool b) w6 := by
  have hlt := hR.P.lt
  obtain ⟨f, rfl⟩ : ∃ f', f = f' + 1 := ⟨f - 1, by omega⟩
  rw [rowOf] at hrow
  have hs0 := hR.fr.size
  have hs4 := hfr.size
  have hsz : ((w4.alloc o1).alloc o2).heap.size = w4.heap.size + 2 := by simp
  have hs5 := hgr.size
  have hs6 := hfr6.size
  have vb : v.ownBlock ≠ some bp := fun e => by have := (hR.own.lt bp e).1; have := hR.bpold; omega
  have v'b : v'.ownBlock ≠ some bp := fun e => by have := (ho.lt bp e).1; have := hR.bpold; omega
  have vlt : ∀ x, v.ownBlock = some x → x < wr.heap.size := fun x e => (hR.own.lt x e).2
  -- the variables' block is none of the row's
  have hv2 : ∀ x, vv2.ownBlock = some x → v.ownBlock ≠ some x := fun x e q => by
    rcases hfr.vnew x e with r | r
    · rcases hR.vne with s | s
      · rw [s] at q; cases q
      · exact s (by rw [r, q])
    · have := vlt x q; omega
  have hv2' : v'.ownBlock = none ∨ vv2.ownBlock ≠ v'.ownBlock := by
    cases hx : v'.ownBlock with
    | none => exact .inl rfl
    | some x =>
      right; intro e
      rcases hnw x hx with r | r
      · exact hv2 x e r
      · have := hP4.blt x (.inr (.inr e)); omega
  have hB45 : ∀ x, x < w4.heap.size → v.ownBlock ≠ some x → w5.heap[x]? = w4.heap[x]? := fun x hx hq => by
    rw [hgr.block x (by omega) (fun e => hq e.symm), Below.heap_alloc _ _ _ (by simp; omega), Below.heap_alloc _ _ _ hx]
  have hFr05 : Fr bp vv vv2 w0 w5 := by
    have h04 := hR.fr.trans hfr
    refine ⟨hgr.os.trans h04.os, hgr.tape.trans h04.tape, hgr.output.trans h04.output, by omega, fun x hx h1 h2 => ?_, h04.vnew⟩
    rw [hB45 x (by omega) (fun e => by have := (hR.own.lt x e).1; omega)]
    exact h04.block x hx h1 h2
  have hdeep : (if b then st2.pass else st2).deep = st.deep := by
    have : (if b then st2.pass else st2).deep = st2.deep := by split <;> rfl
    rw [this, hd, hR.deep]
  have hRn : RowAt w0 bp toks lv vv st v' w6 (cs ++ ds) (n + 1) vv2 (if b then st2.pass else st2) :=
    ⟨hP6, hFr05.trans hfr6, hdeep, own_fr ho hfr6 v'b hv2', hv2', by have := hg.small; omega, hR.shapes.snoc hR.own.1 hsh, hR.bpold, hR.lvold⟩
  cases hr : ex (st1.i, st1.vars) with
  | error e =>
    rw [hr] at hok hrow
    obtain ⟨e1, e2, e3⟩ := hok
    have hbf : b = false := by rw [hb]; exact isB_f1 (by rw [e1]; exact e3)
    subst hbf
    exact ⟨0, by omega, _, _, _, _, hRn, .inr ⟨rfl, by rw [← hrow]; exact ⟨e1, e2, e3⟩⟩⟩
  | ok p =>
    rw [hr] at hok hrow
    obtain ⟨f1, f2, f3, f4, f5, f6⟩ := hok
    -- the elements, old and new, in the last world
    have g1 : ERepL w6 (okL w0 bp vv2 v') acc cs := by
      refine ERepL.frame (fun x hx hxl => ?_) hE
      obtain ⟨q1, q2, q3, q4⟩ := hx
      have r1 : vv2.ownBlock ≠ some x := fun e => (hfr.vnew x e).elim q3 (fun q => by omega)
      have r2 : v'.ownBlock ≠ some x := fun e => (hnw x e).elim q4 (fun q => by omega)
      exact ⟨by rw [hfr6.block x (by omega) q2 r1, hB45 x (by omega) q4, hfr.block x hxl q2 q3], q1, q2, r1, r2⟩
    have g2 : ERep w6 (okL w0 bp vv2 v') p.1 ds := by
      refine ERep.frame (fun x hx hxl => ?_) f6
      obtain ⟨q1, q2, q3⟩ := hx
      have q4 : v.ownBlock ≠ some x := fun e => by have := vlt x e; omega
      have r2 : v'.ownBlock ≠ some x := fun e => (hnw x e).elim q4 (fun q => by omega)
      exact ⟨by rw [hfr6.block x (by omega) q2 q3, hB45 x hxl q4], by omega, q2, q3, r2⟩
    have hE6 := g1.snoc g2
    have hbb : b = isT (tk toks p.2.1) [44] := by
      rw [hb, f2]; simp [isB, isT, f1]
    cases b with
    | true =>
      dsimp only at hrow
      rw [if_pos hbb.symm] at hrow
      have hl6 := hP6.lt
      have e6 : (if (true : Bool) = true then st2.pass else st2) = st2.pass := rfl
      rw [e6] at hl6 hRn
      have e7 : st2.pass.i = st2.i + 1 := rfl
      refine ⟨toks.length - st2.pass.i + 1, by rw [e7]; omega, _, _, _, _, hRn, .inl ⟨f, acc ++ [p.1], rfl, by simp; omega, by rw [e7]; omega, f1, by show st2.vars.length ≤ 12; rw [f3]; exact f5, by rw [e7]; omega, by rw [e7]; omega, by omega, ?_, hE6⟩⟩
      rw [← hrow, e7, f2, show st2.pass.vars = st2.vars from rfl, f3]
    | false =>
      dsimp only at hrow
      rw [if_neg (by rw [← hbb]; simp)] at hrow
      exact ⟨0, by omega, _, _, _, _, hRn, .inr ⟨rfl, by rw [← hrow]; exact ⟨f1, f2, f3, by omega, f5, by simp; omega, by omega, hE6⟩⟩⟩
def ARep (w : World) (Ok : Nat → Prop) (l : List Ex) (v : Value) : Prop :=
  ∃ g cap cur cs, v = .slice (some ⟨g, 0, none⟩) l.length cap ∧ Ok g ∧ w.heap[g]? = some (.cells cur 125 (0, 0)) ∧ l.length ≤ cap ∧ cap ≤ maxLen ∧ cur.size = cap * 5 ∧ cur.toList.take (l.length * 5) = cs ∧ ERepL w Ok l cs
def ArOk (r : R (List Ex)) (st : PS) (w w' : World) (bp : Nat) (vv' : Value) (st' : PS) (v : Value) : Prop :=
  match r with
  | .ok (l, s') => st'.err = 0 ∧ st'.i = s'.1 ∧ st'.vars = s'.2 ∧ st.i ≤ s'.1 ∧ s'.2.length ≤ 12 ∧ ARep w' (fun b => w.heap.size ≤ b ∧ b ≠ bp ∧ vv'.ownBlock ≠ some b) l v
  | .error (er, a) => st'.err = er ∧ st'.at_ = a ∧ er ≠ 0
def APost (bp : Nat) (toks : List Tok) (lv vv : Value) (st : PS) (w : World) (r : R (List Ex)) (e : Ending) (w' : World) : Prop :=
  ∃ ao n cap vv' st', e = .returned (.slice ao n cap) ∧ PIn w' bp toks lv vv' st' ∧ Fr bp vv vv' w w' ∧ st'.deep = st.deep ∧ ArOk r st w w' bp vv' st' (.slice ao n cap)
theorem row_args {w0 : World} {bp : Nat} {toks : List Tok} {lv vv : Value} {st : PS} {v : Value} {wr w' : World} {cs : List Value} {n : Nat} {vv1 vv2 : Value} {st1 : PS} {l : List Ex} (hR : RowAt w0 bp toks lv vv st v wr cs n vv1 st1) (hn : n = l.length) (h0 : 0 < n)
    (hE : ERepL wr (okL w0 bp vv1 v) l cs) (hf : Fr bp vv1 vv2 wr w') : ARep w' (fun b => w0.heap.size ≤ b ∧ b ≠ bp ∧ vv2.ownBlock ≠ some b) l v := by
  have vb : v.ownBlock ≠ some bp := fun e => by have := (hR.own.lt bp e).1; have := hR.bpold; omega
  have ho := own_fr hR.own hf vb hR.vne
  have hvn : ∀ x, v.ownBlock = some x → vv2.ownBlock ≠ some x := fun x e q => by
    rcases hf.vnew x q with r | r
    · rcases hR.vne with s | s
      · rw [s] at e; cases e
      · exact s (by rw [r, e])
    · have := (hR.own.lt x e).2; omega
  rcases ho.2 with ⟨_, hz⟩ | ⟨g, cap, cur, rfl, r1, r2, r3, r4, r5, r6⟩
  · omega
  · subst hn
    refine ⟨g, cap, cur, cs, rfl, ⟨r1, fun e => vb (by rw [e]; rfl), hvn g rfl⟩, r2, r3, r4, r5, r6, ERepL.frame (fun x hx hxl => ?_) hE⟩
    obtain ⟨q1, q2, q3, q4⟩ := hx
    exact ⟨hf.block x hxl q2 q3, q1, q2, fun e => (hf.vnew x e).elim q3 (fun q => by omega)⟩
theorem row_nb {w0 : World} {bp : Nat} {toks : List Tok} {lv vv : Value} {st : PS} {v : Value} {wr : World} {cs : List Value} {n : Nat} {vv1 : Value} {st1 : PS} (hR : RowAt w0 bp toks lv vv st v wr cs n vv1 st1) : v.ownBlock ≠ some bp :=
  fun e => by have := (hR.own.lt bp e).1; have := hR.bpold; omega
theorem row_P5 {w0 : World} {bp : Nat} {toks : List Tok} {lv vv : Value} {st : PS} {v : Value} {wr w4 w5 : World} {cs : List Value} {n : Nat} {vv1 vv2 : Value} {st1 st2 : PS} {o1 o2 : Obj} (hR : RowAt w0 bp toks lv vv st v wr cs n vv1 st1)
    (hP4 : PIn w4 bp toks lv vv2 st2) (hfr : Fr bp vv1 vv2 wr w4) (hgr : ((w4.alloc o1).alloc o2).grownBy w5 v.ownBlock) : PIn w5 bp toks lv vv2 st2 := by
  refine ((hP4.alloc o1).alloc o2).grown hgr (row_nb hR) (fun b e q => ?_) (fun b e q => ?_)
  · have := (hR.own.lt b q).1; have := hR.lvold b e; omega
  · rcases hfr.vnew b e with r | r
    · rcases hR.vne with s | s
      · rw [s] at q; cases q
      · exact s (by rw [r, q])
    · have := (hR.own.lt b q).2; omega
theorem Tryz.infoExpr : (Tryz.prog.info? 125).map (fun i => (i.zero, i.size, i.bytes)) = some (some (.agg exZero), 5, 64) := by kernel_rfl
theorem Tryz.underlyingExprs : Tryz.prog.underlying 44 = some (.slice 125) := by kernel_rfl
theorem cells5 (w : World) (o : Obj) (x0 x1 x2 x3 x4 : Value) (T : TypeId) : ∀ j u, [x0, x1, x2, x3, x4][j]? = some u → ((w.alloc o).alloc (.cells #[x0, x1, x2, x3, x4] T)).cell? ((⟨w.heap.size + 1, 0, none⟩ : Addr).add j) = some u := by
  intro j u h
  have hadd : (⟨w.heap.size + 1, 0, none⟩ : Addr).add j = ⟨w.heap.size + 1, j, none⟩ := by unfold Addr.add; split <;> simp_all
  have hn : ((w.alloc o).alloc (.cells #[x0, x1, x2, x3, x4] T)).heap[w.heap.size + 1]? = some (.cells #[x0, x1, x2, x3, x4] T (0, 0)) := by
    have := heap_alloc_new (w.alloc o) (.cells #[x0, x1, x2, x3, x4] T)
    simpa using this
  rw [hadd, cell_of_block hn]
  simpa using h
theorem args_few {w0 : World} {bp : Nat} {toks : List Tok} {lv vv : Value} {st : PS} {ao : Option Addr} {cap : Nat} {wr : World} {cs : List Value} {n a : Nat} {vv1 : Value} {st1 : PS} {ex : St → R Ex} {total : R (List Ex)} (hR : RowAt w0 bp toks lv vv st (.slice ao n cap) wr cs n vv1 st1)
    (hf : RowFin w0 bp vv1 st (.slice ao n cap) wr cs n st1 total) (ht : rowOf toks ex (toks.length + 1) [] (st.i, st.vars) = total) (hn : n ≤ 4) : APost bp toks lv vv st w0 (argsOf toks ex a (st.i, st.vars)) (.returned (.slice ao n cap)) wr := by
  refine ⟨ao, n, cap, vv1, st1, rfl, hR.P, hR.fr, hR.deep, ?_⟩
  unfold argsOf
  rw [ht]
  cases total with
  | error e => exact hf
  | ok p =>
    obtain ⟨f1, f2, f3, f4, f5, f6, f7, f8⟩ := hf
    dsimp only
    rw [if_neg (by omega)]
    exact ⟨f1, f2, f3, f4, f5, row_args hR f6 f7 f8 (Fr.refl _ _ _)⟩
theorem args_many {w0 : World} {bp : Nat} {toks : List Tok} {lv vv : Value} {st : PS} {ao : Option Addr} {cap : Nat} {wr w7 : World} {cs : List Value} {n a : Nat} {vv1 : Value} {st1 : PS} {ex : St → R Ex} {total : R (List Ex)} (hR : RowAt w0 bp toks lv vv st (.slice ao n cap) wr cs n vv1 st1)
    (hf : RowFin w0 bp vv1 st (.slice ao n cap) wr cs n st1 total) (ht : rowOf toks ex (toks.length + 1) [] (st.i, st.vars) = total) (hn : 4 < n) (hP : PIn w7 bp toks lv vv1 (st1.fault 4 a)) (hfr : Fr bp vv1 vv1 wr w7) :
    APost bp toks lv vv st w0 (argsOf toks ex a (st.i, st.vars)) (.returned (.slice ao n cap)) w7 := by
  refine ⟨ao, n, cap, vv1, st1.fault 4 a, rfl, hP, hR.fr.trans hfr, by rw [PS.fault_deep]; exact hR.deep, ?_⟩
  unfold argsOf
  rw [ht]
  cases total with
  | error e =>
    obtain ⟨e1, e2, e3⟩ := hf
    have : st1.fault 4 a = st1 := by unfold PS.fault; rw [if_neg (by rw [e1]; exact e3)]
    rw [this]
    exact ⟨e1, e2, e3⟩
  | ok p =>
    obtain ⟨f1, f2, f3, f4, f5, f6, f7, f8⟩ := hf
    dsimp only
    rw [if_pos (by omega)]
    refine ⟨?_, ?_, by decide⟩ <;> simp [PS.fault, f1]
theorem args_any {toks : List Tok} {d : Int} {ex : St → R Ex} (hg : GoodToks toks) (hp : Reads 64 toks d ex) (w : World) (bp : Nat) (lv vv : Value) (st : PS) (a : Nat) (h : PIn w bp toks lv vv st) (he : st.err = 0) (hv : st.vars.length ≤ 12) (hd : st.deep = d) :
    Calls Tryz.prog 102 #[.pointer (some ⟨bp, 0, none⟩), .int .i64 a] w fun e w' => APost bp toks lv vv st w (argsOf toks ex a (st.i, st.vars)) e w' := by
  have HP := hide hp
  clear hp
  obtain ⟨total, htot⟩ : ∃ t, rowOf toks ex (toks.length + 1) [] (st.i, st.vars) = t := ⟨_, rfl⟩
  have HT := hide htot
  have HS := hide (row_start h he hv htot)
  clear htot
  obtain ⟨i0, hi, hz0, hz1, hz2⟩ := info_parts Tryz.infoExpr
  go_enter Tryz.func102, Tryz.ntmps102
  go_upto_block 0 with fail
  go_cut [5, 6] (fun v _ wx => ∃ cs n vv1 st1, RowAt w bp toks lv vv st v wx cs n vv1 st1 ∧ RowFin w bp vv1 st v wx cs n st1 total)
  case first =>
    go_wp2_with fail
    go_loopg [5, 6] (toks.length + 1) (fun g v m wr => RowRel w bp toks lv vv st ex total g v m wr)
    case atStart => exact HS.out
    case round =>
      obtain ⟨cs, n, vv1, st1, hR, hrel⟩ := hrel
      rcases hrel with ⟨f, acc, rfl, hn, hni, e0, hv1, hi1, hf, hgk, hrow, hE⟩ | ⟨rfl, hfin⟩
      · have HROW := hide hrow
        have HN := hide hn
        have hd1 : st1.deep = d := hR.deep.trans hd
        have hsm := hR.small
        clear hrow hn
        go_wp2_with (first | (go_at_call 64; refine (HP.out _ _ _ _ _ hR.P e0 hv1 hd1).mono ?_; rintro e w4 ⟨ds, vv2, st2, rfl, ⟨z0, z1, z2, z3, z4, z5, z6, rfl⟩, hP4, hfr4, hdp4, hok4⟩) | (at_builtin; refine wpList_append_own2 rfl _ _ 44 rfl w.heap.size 125 i0 (.agg exZero) 5 64 Tryz.underlyingExprs hi hz0 hz1 hz2 rfl (by decide) _ _ _ rfl (((own_fr hR.own hfr4 (row_nb hR) hR.vne).alloc _).alloc _) ⟨w4.heap.size + 1, 0, none⟩ 1 1 [.int .u8 z0, .string z1, .int .i64 z2, .int .i64 z3, .slice z4 z5 z6] rfl rfl ?c1 ?c2 ?c3 ?c4 ?c5 ?_) | go_in)
        case c1 => exact cells5 _ _ _ _ _ _ _ _
        case c2 => intro u hu; simp only [List.mem_cons, List.not_mem_nil, or_false] at hu; rcases hu with rfl | rfl | rfl | rfl | rfl <;> rfl
        case c3 => unfold maxLen; omega
        case c4 => omega
        case c5 => have := hR.fr.size; have := hfr4.size; simp; omega
        intro v' w5 ho hgr hnw
        have hP5 := row_P5 hR hP4 hfr4 hgr
        have HNW := hide hnw
        clear hnw
        go_wp2_with (go_at_call 81; refine (is_any hP5 hg _).mono ?_; rintro e w6 ⟨b, rfl, hb, hP6, hfr6⟩; have HB := hide hb; clear hb)
        obtain ⟨g', hg', hrel'⟩ := row_step hg hR HN.out hni hi1 hf hgk HROW.out hE ⟨_, _, _, _, _, _, _, rfl⟩ hfr4 hdp4 hok4 ho hgr HNW.out HB.out hP6 hfr6 hP4
        go_roundg g'
        case measure => exact hg'
        case rel => exact hrel'
      · go_wp2_with fail
        go_meet
        case rel => exact ⟨_, _, _, _, hR, hfin⟩
  case rest =>
    obtain ⟨cs, n, vv1, st1, hR, hfin⟩ := hcut
    obtain ⟨ao, cap, rfl⟩ := row_form hR.own
    go_wp2_with (go_at_call 68; refine (fault_any hR.P _ _).mono ?_; rintro e w7 ⟨rfl, hP7, hfr7⟩)
    · go_ret
      exact args_many hR hfin HT.out (by omega) hP7 hfr7
    · go_ret
      exact args_few hR hfin HT.out (by omega)
def restOf (toks : List Tok) (ex : St → R Ex) (st : St) : R Ex := if isT (tk toks st.1) [124] then ex (st.1 + 1, st.2) else .ok (nilEx, st)
def midOf (toks : List Tok) (ex : St → R Ex) (st : St) : R (List Ex × Ex) :=
  match rowOf toks ex (toks.length + 1) [] st with
  | .error e => .error e
  | .ok (l, st1) =>
    match restOf toks ex st1 with
    | .error e => .error e
    | .ok (r, st2) => .ok ((l, r), st2)
def endOf (toks : List Tok) : R (List Ex × Ex) → R Ex
  | .error e => .error e
  | .ok (p, st2) => mustT toks [93] (p.1.foldr cellEx p.2) st2
theorem listOf_eq (toks : List Tok) (ex : St → R Ex) (st : St) (h : isT (tk toks st.1) [93] = false) :
    listOf toks ex st = endOf toks (midOf toks ex st) := by
  unfold listOf midOf restOf endOf
  rw [if_neg (by simp [h])]
  cases rowOf toks ex (toks.length + 1) [] st with
  | error e => rfl
  | ok p =>
    dsimp only
    split
    · cases ex (p.2.1 + 1, p.2.2) with
      | error e => rfl
      | ok q => rfl
    · rfl
structure LRoad (w w0 : World) (bp : Nat) (toks : List Tok) (lv vv : Value) (st : PS) (br bx : Nat) (wr : World) (cs : List Value) (vv1 : Value) (st1 : PS) (v : Value) (n : Nat) (es : List Value) : Prop where
  R : Road w bp toks lv vv st br bx wr cs vv1 st1
  own : wr.ownsRow w0.heap.size 125 5 v n es
  vne : v.ownBlock = none ∨ vv1.ownBlock ≠ v.ownBlock
  small : n ≤ 2002
  shapes : Shapes n es
  w0r : br < w0.heap.size
  w0x : bx < w0.heap.size
  w0b : bp < w0.heap.size
  w00 : w.heap.size ≤ w0.heap.size
def LFin (w w0 : World) (bp : Nat) (vv1 : Value) (st : PS) (br bx : Nat) (wr : World) (cs : List Value) (st1 : PS) (v : Value) (n : Nat) (es : List Value) : R (List Ex × Ex) → Prop
  | .ok ((l, r), s') => st1.err = 0 ∧ st1.i = s'.1 ∧ st1.vars = s'.2 ∧ st.i ≤ s'.1 ∧ s'.2.length ≤ 12 ∧ n = l.length ∧ ERepL wr (okL w0 bp vv1 v) l es ∧ ERep wr (fun b => okB w bp vv1 br bx b ∧ v.ownBlock ≠ some b) r cs
  | .error (er, a) => st1.err = er ∧ st1.at_ = a ∧ er ≠ 0
theorem lroad_of_row {w w0 : World} {bp : Nat} {toks : List Tok} {lv vv vv0 : Value} {st st0 : PS} {br bx : Nat} {wr : World} {cs es : List Value} {vv1 : Value} {st1 : PS} {v : Value} {n : Nat}
    (hR0 : Road w bp toks lv vv st br bx w0 cs vv0 st0) (hR : RowAt w0 bp toks lv vv0 st0 v wr es n vv1 st1) : LRoad w w0 bp toks lv vv st br bx wr cs vv1 st1 v n es :=
  ⟨hR0.go hR.P hR.fr hR.deep, hR.own, hR.vne, hR.small, hR.shapes, hR0.bR, hR0.bX, hR.bpold, hR0.fr.size⟩
theorem LRoad.go {w w0 : World} {bp : Nat} {toks : List Tok} {lv vv : Value} {st : PS} {br bx : Nat} {wr w' : World} {cs es : List Value} {vv1 vv2 : Value} {st1 st2 : PS} {v : Value} {n : Nat}
    (h : LRoad w w0 bp toks lv vv st br bx wr cs vv1 st1 v n es) (hP : PIn w' bp toks lv vv2 st2) (hf : Fr bp vv1 vv2 wr w') (hd : st2.deep = st1.deep) : LRoad w w0 bp toks lv vv st br bx w' cs vv2 st2 v n es := by
  have vb : v.ownBlock ≠ some bp := fun e => by have := (h.own.lt bp e).1; have := h.w0b; omega
  refine ⟨h.R.go hP hf hd, own_fr h.own hf vb h.vne, ?_, h.small, h.shapes, h.w0r, h.w0x, h.w0b, h.w00⟩
  cases hx : v.ownBlock with
  | none => exact .inl rfl
  | some x =>
    right; intro e
    rcases hf.vnew x e with r | r
    · rcases h.vne with s | s
      · rw [s] at hx; cases hx
      · exact s (by rw [r, hx])
    · have := (h.own.lt x hx).2; omega
theorem LRoad.fill {w w0 : World} {bp : Nat} {toks : List Tok} {lv vv : Value} {st : PS} {br bx : Nat} {wr : World} {cs es : List Value} {vv1 : Value} {st1 : PS} {v : Value} {n : Nat}
    (h : LRoad w w0 bp toks lv vv st br bx wr cs vv1 st1 v n es) (x0 : Int) (x1 : ByteArray) (x2 x3 : Int) (x4 : Option Addr) (x5 x6 : Nat) :
    LRoad w w0 bp toks lv vv st br bx (set5 wr bx (.int .u8 x0) (.string x1) (.int .i64 x2) (.int .i64 x3) (.slice x4 x5 x6)) [.int .u8 x0, .string x1, .int .i64 x2, .int .i64 x3, .slice x4 x5 x6] vv1 st1 v n es := by
  refine ⟨h.R.fill _ _ _ _ _ _ _, ⟨h.own.1, ?_⟩, h.vne, h.small, h.shapes, h.w0r, h.w0x, h.w0b, h.w00⟩
  rcases h.own.2 with hn | ⟨g, cap, cur, rfl, r1, r2, r3⟩
  · exact .inl hn
  · exact .inr ⟨g, cap, cur, rfl, r1, by rw [set5_other _ _ _ _ _ _ _ _ (by have := h.w0x; omega)]; exact r2, r3⟩
theorem LRoad.alloc {w w0 : World} {bp : Nat} {toks : List Tok} {lv vv : Value} {st : PS} {br bx : Nat} {wr : World} {cs es : List Value} {vv1 : Value} {st1 : PS} {v : Value} {n : Nat}
    (h : LRoad w w0 bp toks lv vv st br bx wr cs vv1 st1 v n es) (o : Obj) : LRoad w w0 bp toks lv vv st br bx (wr.alloc o) cs vv1 st1 v n es :=
  h.go (h.R.P.alloc o) ((Fr.refl _ _ _).alloc o) rfl
theorem LRoad.drew {w w0 : World} {bp : Nat} {toks : List Tok} {lv vv : Value} {st : PS} {br bx : Nat} {wr : World} {cs es : List Value} {vv1 : Value} {st1 : PS} {v : Value} {n : Nat}
    (h : LRoad w w0 bp toks lv vv st br bx wr cs vv1 st1 v n es) : LRoad w w0 bp toks lv vv st br bx wr.drew cs vv1 st1 v n es :=
  h.go h.R.P.drew ((Fr.refl _ _ _).drew) rfl
theorem LFin.go {w w0 : World} {bp : Nat} {vv1 vv2 : Value} {st : PS} {br bx : Nat} {wr w' : World} {cs es : List Value} {st1 : PS} {v : Value} {n : Nat} {t : R (List Ex × Ex)}
    (h : LFin w w0 bp vv1 st br bx wr cs st1 v n es t) (hf : Fr bp vv1 vv2 wr w') : LFin w w0 bp vv2 st br bx w' cs st1 v n es t := by
  cases t with
  | error e => exact h
  | ok p =>
    obtain ⟨f1, f2, f3, f4, f5, f6, f7, f8⟩ := h
    refine ⟨f1, f2, f3, f4, f5, f6, ERepL.frame (fun b hb hlt => ?_) f7, ERep.frame (fun b hb hlt => ?_) f8⟩
    · obtain ⟨q1, q2, q3, q4⟩ := hb
      exact ⟨hf.block b hlt q2 q3, q1, q2, fun e => (hf.vnew _ e).elim q3 (fun q => by omega), q4⟩
    · obtain ⟨⟨q1, q2, q3, q4, q5⟩, q6⟩ := hb
      exact ⟨hf.block b hlt q2 q3, ⟨q1, q2, fun e => (hf.vnew _ e).elim q3 (fun q => by omega), q4, q5⟩, q6⟩
theorem bar_no {w w0 : World} {bp : Nat} {toks : List Tok} {vv1 : Value} {st st0 : PS} {br bx : Nat} {wr w3 : World} {es : List Value} {st1 : PS} {v : Value} {n : Nat} {ex : St → R Ex} {total : R (List Ex)} {s0 : St}
    (hf : RowFin w0 bp vv1 st0 v wr es n st1 total) (ht : rowOf toks ex (toks.length + 1) [] s0 = total) (hi : st.i ≤ st0.i) (hb : isB st1 (tk toks st1.i) (B [124]) = false) (hfr : Fr bp vv1 vv1 wr w3) :
    LFin w w0 bp vv1 st br bx w3 [.int .u8 97, .string (B [91, 93]), .int .i64 0, .int .i64 0, .slice none 0 0] st1 v n es (midOf toks ex s0) := by
  unfold midOf
  rw [ht]
  cases total with
  | error e => exact hf
  | ok p =>
    obtain ⟨f1, f2, f3, f4, f5, f6, f7, f8⟩ := hf
    have hn : isT (tk toks p.2.1) [124] = false := by rw [← f2, ← hb]; simp [isB, isT, f1]
    dsimp only
    unfold restOf
    rw [if_neg (by simp [hn])]
    refine ⟨f1, f2, f3, by omega, f5, f6, ERepL.frame (fun b hb hlt => ?_) f8, .atom _⟩
    obtain ⟨q1, q2, q3, q4⟩ := hb
    exact ⟨hfr.block b hlt q2 q3, q1, q2, q3, q4⟩
theorem bar_yes {w w0 : World} {bp : Nat} {toks : List Tok} {lv vv vv1 vv3 : Value} {st st0 : PS} {br bx : Nat} {wr w3 w4 : World} {es : List Value} {st1 st3 : PS} {v : Value} {n : Nat} {ex : St → R Ex} {total : R (List Ex)} {s0 : St} {cs : List Value}
    {z0 : Int} {z1 : ByteArray} {z2 z3 : Int} {z4 : Option Addr} {z5 z6 : Nat}
    (hL : LRoad w w0 bp toks lv vv st br bx w3 cs vv1 st1.pass v n es) (hf : RowFin w0 bp vv1 st0 v wr es n st1 total) (ht : rowOf toks ex (toks.length + 1) [] s0 = total) (hi : st.i ≤ st0.i) (hb : isB st1 (tk toks st1.i) (B [124]) = true) (hfr : Fr bp vv1 vv1 wr w3)
    (hfr4 : Fr bp vv1 vv3 w3 w4) (hok : ErOk (ex (st1.i + 1, st1.vars)) st1.pass w3 w4 bp vv3 st3 [.int .u8 z0, .string z1, .int .i64 z2, .int .i64 z3, .slice z4 z5 z6]) :
    LFin w w0 bp vv3 st br bx (set5 w4 bx (.int .u8 z0) (.string z1) (.int .i64 z2) (.int .i64 z3) (.slice z4 z5 z6)) [.int .u8 z0, .string z1, .int .i64 z2, .int .i64 z3, .slice z4 z5 z6] st3 v n es (midOf toks ex s0) := by
  have he : st1.err = 0 := by simp [isB] at hb; exact hb.1
  unfold midOf
  rw [ht]
  cases total with
  | error e => obtain ⟨e1, e2, e3⟩ := hf; exact absurd (e1.symm.trans he) e3
  | ok p =>
    obtain ⟨f1, f2, f3, f4, f5, f6, f7, f8⟩ := hf
    have hy : isT (tk toks p.2.1) [124] = true := by rw [← f2, ← hb]; simp [isB, isT, f1]
    dsimp only
    unfold restOf
    rw [if_pos hy]
    rw [f2, f3] at hok
    cases hr : ex (p.2.1 + 1, p.2.2) with
    | error e => rw [hr] at hok; exact hok
    | ok q =>
      rw [hr] at hok
      obtain ⟨g1, g2, g3, g4, g5, g6⟩ := hok
      have g4' : st1.i + 1 ≤ q.2.1 := g4
      have hs3 := hL.R.fr.size
      have hx0 := hL.w0x
      have hbr := hL.R.bR
      have hbx := hL.R.bX
      refine ⟨g1, g2, g3, by omega, g5, f6, ERepL.frame (fun b hb hlt => ?_) f8, ERep.frame (fun b hb hlt => ?_) g6⟩
      · obtain ⟨q1, q2, q3, q4⟩ := hb
        have hs := hfr.size
        exact ⟨by rw [set5_other _ _ _ _ _ _ _ _ (by omega), hfr4.block b (by omega) q2 q3]; exact hfr.block b hlt q2 q3, q1, q2, fun e => (hfr4.vnew _ e).elim q3 (fun q => by omega), q4⟩
      · obtain ⟨q1, q2, q3⟩ := hb
        exact ⟨set5_other _ _ _ _ _ _ _ _ (by omega), ⟨by omega, q2, q3, by omega, by omega⟩, fun e => by have := (hL.own.lt b e).2; omega⟩
theorem drop_take_get {es : List Value} {k : Nat} {a b c d e : Value} (h : (es.drop (k * 5)).take 5 = [a, b, c, d, e]) :
    es[k * 5]? = some a ∧ es[k * 5 + 1]? = some b ∧ es[k * 5 + 2]? = some c ∧ es[k * 5 + 3]? = some d ∧ es[k * 5 + 4]? = some e := by
  have hj : ∀ j, j < 5 → es[k * 5 + j]? = [a, b, c, d, e][j]? := fun j hj => by
    rw [← h, List.getElem?_take, if_pos hj, List.getElem?_drop]
  exact ⟨hj 0 (by omega), hj 1 (by omega), hj 2 (by omega), hj 3 (by omega), hj 4 (by omega)⟩
theorem own_elem {wr : World} {base n cap k : Nat} {ao : Option Addr} {es : List Value} (h : wr.ownsRow base 125 5 (.slice ao n cap) n es) (hs : Shapes n es) (hk : k < n) :
    ∃ g a b c d x y z, ao = some ⟨g, 0, none⟩ ∧ n ≤ cap ∧ cap ≤ maxLen ∧ g < wr.heap.size ∧ (es.drop (k * 5)).take 5 = [.int .u8 a, .string b, .int .i64 c, .int .i64 d, .slice x y z] ∧
      wr.cell? ⟨g, k * 5, none⟩ = some (.int .u8 a) ∧ wr.cell? ⟨g, k * 5 + 1, none⟩ = some (.string b) ∧ wr.cell? ⟨g, k * 5 + 2, none⟩ = some (.int .i64 c) ∧ wr.cell? ⟨g, k * 5 + 3, none⟩ = some (.int .i64 d) ∧ wr.cell? ⟨g, k * 5 + 4, none⟩ = some (.slice x y z) := by
  rcases h.2 with ⟨_, h0⟩ | ⟨g, cap', cur, hv, _, hgg, hcap, hmx, hsz, htk⟩
  · omega
  · cases hv
    obtain ⟨a, b, c, d, x, y, z, e⟩ := hs k hk
    obtain ⟨t0, t1, t2, t3, t4⟩ := drop_take_get e
    exact ⟨g, a, b, c, d, x, y, z, rfl, hcap, hmx, (Array.getElem?_eq_some_iff.1 hgg).1, e, rowCell hgg htk t0, rowCell hgg htk t1, rowCell hgg htk t2, rowCell hgg htk t3, rowCell hgg htk t4⟩
theorem ERepL.get {w : World} {Ok : Nat → Prop} : ∀ {l : List Ex} {cs : List Value} (_ : ERepL w Ok l cs) (k : Nat) (hk : k < l.length), ERep w Ok l[k] ((cs.drop (k * 5)).take 5)
  | _, _, .cons x l a b hx hl, 0, _ => by
    have h5 := hx.len
    have e : ((a ++ b).drop (0 * 5)).take 5 = a := by rw [Nat.zero_mul, List.drop_zero, ← h5, List.take_left]
    rw [e]; exact hx
  | _, _, .cons x l a b hx hl, k + 1, hk => by
    have h5 := hx.len
    have := ERepL.get hl k (by simpa using hk)
    have e : (a ++ b).drop ((k + 1) * 5) = b.drop (k * 5) := by rw [show (k + 1) * 5 = a.length + k * 5 by omega, ← List.drop_drop, List.drop_left]
    rw [e]
    simpa using this
def FoldAt (w w0 : World) (bp : Nat) (vv1 : Value) (br bx : Nat) (wr : World) (cs : List Value) (v : Value) (n : Nat) (es : List Value) (k : Nat) : R (List Ex × Ex) → Prop
  | .ok ((l, r), _) => n = l.length ∧ ERepL wr (okL w0 bp vv1 v) l es ∧ ERep wr (fun b => okB w bp vv1 br bx b ∧ v.ownBlock ≠ some b) ((l.drop k).foldr cellEx r) cs
  | .error _ => True
theorem fold_start {w w0 : World} {bp : Nat} {vv1 : Value} {st : PS} {br bx : Nat} {wr w' : World} {cs es : List Value} {st1 : PS} {v : Value} {n : Nat} {t : R (List Ex × Ex)} (h : LFin w w0 bp vv1 st br bx wr cs st1 v n es t) (hf : Fr bp vv1 vv1 wr w') :
    FoldAt w w0 bp vv1 br bx w' cs v n es n t := by
  have h := LFin.go h hf
  cases t with
  | error e => trivial
  | ok p =>
    obtain ⟨f1, f2, f3, f4, f5, f6, f7, f8⟩ := h
    refine ⟨f6, f7, ?_⟩
    rw [List.drop_of_length_le (by omega)]
    exact f8
theorem fold_step {w w0 : World} {bp : Nat} {toks : List Tok} {lv vv vv1 : Value} {st st1 : PS} {br bx : Nat} {wr : World} {es : List Value} {v : Value} {n k : Nat} {t : R (List Ex × Ex)} {a : Int} {b : ByteArray} {c d : Int} {x : Option Addr} {y z : Nat}
    {y0 : Int} {y1 : ByteArray} {y2 y3 : Int} {y4 : Option Addr} {y5 y6 : Nat}
    (hL : LRoad w w0 bp toks lv vv st br bx wr [.int .u8 y0, .string y1, .int .i64 y2, .int .i64 y3, .slice y4 y5 y6] vv1 st1 v n es) (h : FoldAt w w0 bp vv1 br bx wr [.int .u8 y0, .string y1, .int .i64 y2, .int .i64 y3, .slice y4 y5 y6] v n es (k + 1) t) (hk : k < n)
    (he : (es.drop (k * 5)).take 5 = [.int .u8 a, .string b, .int .i64 c, .int .i64 d, .slice x y z]) :
    LRoad w w0 bp toks lv vv st br bx (((set5 wr bx (.int .u8 99) (.string (B [46])) (.int .i64 0) (.int .i64 0) (.slice (some ⟨wr.heap.size, 0, none⟩) 2 2)).alloc (.cells #[.int .u8 a, .string b, .int .i64 c, .int .i64 d, .slice x y z, .int .u8 y0, .string y1, .int .i64 y2, .int .i64 y3, .slice y4 y5 y6] 125)).drew)
      [.int .u8 99, .string (B [46]), .int .i64 0, .int .i64 0, .slice (some ⟨wr.heap.size, 0, none⟩) 2 2] vv1 st1 v n es ∧
    FoldAt w w0 bp vv1 br bx (((set5 wr bx (.int .u8 99) (.string (B [46])) (.int .i64 0) (.int .i64 0) (.slice (some ⟨wr.heap.size, 0, none⟩) 2 2)).alloc (.cells #[.int .u8 a, .string b, .int .i64 c, .int .i64 d, .slice x y z, .int .u8 y0, .string y1, .int .i64 y2, .int .i64 y3, .slice y4 y5 y6] 125)).drew)
      [.int .u8 99, .string (B [46]), .int .i64 0, .int .i64 0, .slice (some ⟨wr.heap.size, 0, none⟩) 2 2] v n es k t := by
  refine ⟨((hL.fill 99 (B [46]) 0 0 (some ⟨wr.heap.size, 0, none⟩) 2 2).alloc _).drew, ?_⟩
  cases t with
  | error e => trivial
  | ok p =>
    obtain ⟨⟨l, r⟩, s'⟩ := p
    obtain ⟨f1, f2, f3⟩ := h
    have hkl : k < l.length := by omega
    have hs0 := hL.R.fr.size
    have hbp := hL.R.bpold
    have hbr := hL.R.bR
    have hbx := hL.R.bX
    have hx0 := hL.w0x
    have hr0 := hL.w0r
    have h00 := hL.w00
    have hss : (set5 wr bx (.int .u8 99) (.string (B [46])) (.int .i64 0) (.int .i64 0) (.slice (some ⟨wr.heap.size, 0, none⟩) 2 2)).heap.size = wr.heap.size := set5_size _ _ _ _ _ _ _
    have hkeep : ∀ q, q < wr.heap.size → q ≠ bx → (((set5 wr bx (.int .u8 99) (.string (B [46])) (.int .i64 0) (.int .i64 0) (.slice (some ⟨wr.heap.size, 0, none⟩) 2 2)).alloc (.cells #[.int .u8 a, .string b, .int .i64 c, .int .i64 d, .slice x y z, .int .u8 y0, .string y1, .int .i64 y2, .int .i64 y3, .slice y4 y5 y6] 125)).drew).heap[q]? = wr.heap[q]? := fun q hq hn =>
      (Below.heap_alloc _ _ _ (by rw [hss]; exact hq)).trans (set5_other _ _ _ _ _ _ _ _ hn)
    refine ⟨f1, ERepL.frame (fun q hq hlt => ⟨hkeep q hlt (by have := hq.1; omega), hq⟩) f2, ?_⟩
    rw [List.drop_eq_getElem_cons hkl, List.foldr_cons]
    have hel := f2.get k hkl
    rw [he] at hel
    refine ERep.two (B [46]) (ERep.frame (fun q hq hlt => ?_) hel) (ERep.frame (fun q hq hlt => ?_) f3) ?_ ?_
    · obtain ⟨q1, q2, q3, q4⟩ := hq
      exact ⟨hkeep q hlt (by omega), ⟨by omega, q2, q3, by omega, by omega⟩, q4⟩
    · exact ⟨hkeep q hlt hq.1.2.2.2.2, hq⟩
    · have := heap_alloc_new (set5 wr bx (.int .u8 99) (.string (B [46])) (.int .i64 0) (.int .i64 0) (.slice (some ⟨wr.heap.size, 0, none⟩) 2 2)) (.cells #[.int .u8 a, .string b, .int .i64 c, .int .i64 d, .slice x y z, .int .u8 y0, .string y1, .int .i64 y2, .int .i64 y3, .slice y4 y5 y6] 125)
      rw [hss] at this
      exact this
    · exact ⟨⟨by omega, by omega, fun e => by have := hL.R.P.blt _ (.inr (.inr e)); omega, by omega, by omega⟩, fun e => by have := (hL.own.lt _ e).2; omega⟩
theorem list_end {w w0 : World} {bp : Nat} {toks : List Tok} {vv2 : Value} {st : PS} {br bx : Nat} {w2 wx : World} {cs cs' es : List Value} {st2 st5 : PS} {v : Value} {n : Nat} {t : R (List Ex × Ex)} {total : R Ex}
    (hF : LFin w w0 bp vv2 st br bx w2 cs st2 v n es t) (h5 : st5 = (if isB st2 (tk toks st2.i) (B [93]) then st2.pass else st2.fault 2 (tk toks st2.i).a)) (hfold : FoldAt w w0 bp vv2 br bx wx cs' v n es 0 t)
    (ht : total = endOf toks t) : Fin w bp vv2 st br bx wx cs' st5 total := by
  cases t with
  | error e =>
    obtain ⟨e1, e2, e3⟩ := hF
    have hb : isB st2 (tk toks st2.i) (B [93]) = false := isB_f1 (by rw [e1]; exact e3)
    have h5' : st5 = st2 := by rw [h5, if_neg (by simp [hb])]; unfold PS.fault; rw [if_neg (by rw [e1]; exact e3)]
    rw [h5', ht]
    exact ⟨e1, e2, e3⟩
  | ok p =>
    obtain ⟨⟨l, r⟩, s'⟩ := p
    obtain ⟨f1, f2, f3, f4, f5, f6, f7, f8⟩ := hF
    obtain ⟨g1, g2, g3⟩ := hfold
    have hbt : isB st2 (tk toks st2.i) (B [93]) = isT (tk toks s'.1) [93] := by rw [f2]; simp [isB, isT, f1]
    rw [ht]
    unfold endOf mustT
    dsimp only
    rw [hbt] at h5
    cases hb : isT (tk toks s'.1) [93] with
    | true =>
      rw [hb, if_pos rfl] at h5
      rw [if_pos rfl, h5]
      exact ⟨f1, by show st2.i + 1 = _; rw [f2], f3, Nat.le_succ_of_le f4, f5, ERep.frame (fun q hq _ => ⟨rfl, hq.1⟩) g3⟩
    | false =>
      rw [hb, if_neg (by simp)] at h5
      rw [if_neg (by simp), h5]
      refine ⟨?_, ?_, by decide⟩
      · simp [PS.fault, f1]
      · simp [PS.fault, f1, f2]
def nilCells : List Value := [.int .u8 97, .string (B [91, 93]), .int .i64 0, .int .i64 0, .slice none 0 0]
def listW (w : World) : World := (w.alloc (.cells exZero 125)).alloc (.cells nilCells.toArray 125)
theorem listW_road {w : World} {bp : Nat} {toks : List Tok} {lv vv : Value} {st : PS} (h : PIn w bp toks lv vv st) : Road w bp toks lv vv st w.heap.size (w.heap.size + 1) (listW w) nilCells vv st := by
  obtain ⟨m1, m2, m3⟩ := h.new (b := w.heap.size) (Nat.le_refl _)
  obtain ⟨n1, n2, n3⟩ := h.new (b := w.heap.size + 1) (by omega)
  refine ⟨⟨_, _, _, _, _, _, _, rfl⟩, ?_, ?_, (h.alloc _).alloc _, ((Fr.refl _ _ _).alloc _).alloc _, rfl, Nat.le_refl _, by omega, by omega, m3, n3, h.lt_size, fun b e => h.blt b (.inr (.inl e))⟩
  · have := heap_alloc_new (w.alloc (.cells exZero 125)) (.cells nilCells.toArray 125)
    simpa [listW] using this
  · rw [listW, Below.heap_alloc _ _ _ (by simp)]; exact heap_alloc_new _ _
theorem isB_T {st : PS} {t : Tok} {s : List UInt8} (h : st.err = 0) : isB st t (B s) = isT t s := by simp [isB, isT, h]
theorem row_vars {w0 : World} {bp : Nat} {toks : List Tok} {vv1 v : Value} {st st1 : PS} {wr : World} {cs : List Value} {n : Nat} {total : R (List Ex)} {s : ByteArray} (h : RowFin w0 bp vv1 st v wr cs n st1 total) (hb : isB st1 (tk toks st1.i) s = true) : st1.vars.length ≤ 12 ∧ st1.err = 0 := by
  have he : st1.err = 0 := by simp [isB] at hb; exact hb.1
  refine ⟨?_, he⟩
  cases total with
  | error e => obtain ⟨e1, e2, e3⟩ := h; exact absurd (e1.symm.trans he) e3
  | ok p => rw [h.2.2.1]; exact h.2.2.2.2.1
theorem list_any {toks : List Tok} {d : Int} {ex : St → R Ex} (hg : GoodToks toks) (hp : Reads 64 toks d ex) : Reads 235 toks d (listOf toks ex) := by
  intro w bp lv vv st h he hv hd
  have HP := hide hp
  clear hp
  have hR0 := listW_road h
  have HI := hide (is_any hR0.P hg (B [93]))
  obtain ⟨bb, hbb⟩ : ∃ b, b = isB st (tk toks st.i) (B [93]) := ⟨_, rfl⟩
  rw [← hbb] at HI
  have HBB := hide hbb
  clear hbb
  cases bb with
  | true =>
    have HT : Hid (listOf toks ex (st.i, st.vars) = .ok (nilEx, (st.i + 1, st.vars))) := by
      unfold Hid listOf; rw [if_pos (by have := HBB.out; rw [isB_T he] at this; exact this.symm)]
    go_enter Tryz.func235, Tryz.ntmps235
    go_wp2_with (go_at_call 81; refine HI.out.mono ?_; rintro e w1 ⟨b, rfl, rfl, hP1, hfr1⟩; have hR1 := hR0.go hP1 hfr1 rfl; obtain ⟨c0, c1, c2, c3, c4, cf⟩ := box5 hR1.box; obtain ⟨d0, d1, d2, d3, d4, df⟩ := box5 hR1.res)
    rw [HT.out]
    exact bodyPost_ret (v := .agg #[.int .u8 97, .string (B [91, 93]), .int .i64 0, .int .i64 0, .slice none 0 0]) (by simp [results, Tryz.results235, go_sem, d0, d1, d2, d3, d4]) rfl (road_end hR1 ⟨he, rfl, rfl, Nat.le_succ _, hv, .atom _⟩)
  | false =>
    have hno : isT (tk toks st.i) [93] = false := by have := HBB.out; rw [isB_T he] at this; exact this.symm
    have HL := hide (listOf_eq toks ex (st.i, st.vars) hno)
    clear hno
    obtain ⟨i0, hi, hz0, hz1, hz2⟩ := info_parts Tryz.infoExpr
    go_enter Tryz.func235, Tryz.ntmps235
    go_upto_block 0 with (go_at_call 81; refine HI.out.mono ?_; rintro e w1 ⟨b, rfl, rfl, hP1, hfr1⟩)
    have hR1 := hR0.go hP1 hfr1 rfl
    obtain ⟨total, htot⟩ : ∃ t, rowOf toks ex (toks.length + 1) [] (st.i, st.vars) = t := ⟨_, rfl⟩
    have HT := hide htot
    have HS := hide (row_start hR1.P he hv htot)
    clear htot
    go_cut [5, 6] (fun v _ wx => ∃ cs n vv1 st1, RowAt w1 bp toks lv vv st v wx cs n vv1 st1 ∧ RowFin w1 bp vv1 st v wx cs n st1 total)
    case first =>
      go_wp2_with fail
      go_loopg [5, 6] (toks.length + 1) (fun g v m wr => RowRel w1 bp toks lv vv st ex total g v m wr)
      case atStart => exact HS.out
      case round =>
        obtain ⟨cs, n, vv1, st1, hR, hrel⟩ := hrel
        rcases hrel with ⟨f, acc, rfl, hn, hni, e0, hv1, hi1, hf, hgk, hrow, hE⟩ | ⟨rfl, hfin⟩
        · have HROW := hide hrow
          have HN := hide hn
          have hd1 : st1.deep = d := hR.deep.trans hd
          have hsm := hR.small
          clear hrow hn
          go_wp2_with (first | (go_at_call 64; refine (HP.out _ _ _ _ _ hR.P e0 hv1 hd1).mono ?_; rintro e w4 ⟨ds, vv2, st2, rfl, ⟨z0, z1, z2, z3, z4, z5, z6, rfl⟩, hP4, hfr4, hdp4, hok4⟩) | (at_builtin; refine wpList_append_own2 rfl _ _ 44 rfl w1.heap.size 125 i0 (.agg exZero) 5 64 Tryz.underlyingExprs hi hz0 hz1 hz2 rfl (by decide) _ _ _ rfl (((own_fr hR.own hfr4 (row_nb hR) hR.vne).alloc _).alloc _) ⟨w4.heap.size + 1, 0, none⟩ 1 1 [.int .u8 z0, .string z1, .int .i64 z2, .int .i64 z3, .slice z4 z5 z6] rfl rfl ?c1 ?c2 ?c3 ?c4 ?c5 ?_) | go_in)
          case c1 => exact cells5 _ _ _ _ _ _ _ _
          case c2 => intro u hu; simp only [List.mem_cons, List.not_mem_nil, or_false] at hu; rcases hu with rfl | rfl | rfl | rfl | rfl <;> rfl
          case c3 => unfold maxLen; omega
          case c4 => omega
          case c5 => have := hR.fr.size; have := hfr4.size; simp; omega
          intro v' w5 ho hgr hnw
          have hP5 := row_P5 hR hP4 hfr4 hgr
          have HNW := hide hnw
          clear hnw
          go_wp2_with (go_at_call 81; refine (is_any hP5 hg _).mono ?_; rintro e w6 ⟨b, rfl, hb, hP6, hfr6⟩; have HB := hide hb; clear hb)
          obtain ⟨g', hg', hrel'⟩ := row_step hg hR HN.out hni hi1 hf hgk HROW.out hE ⟨_, _, _, _, _, _, _, rfl⟩ hfr4 hdp4 hok4 ho hgr HNW.out HB.out hP6 hfr6 hP4
          go_roundg g'
          case measure => exact hg'
          case rel => exact hrel'
        · go_wp2_with fail
          go_meet
          case rel => exact ⟨_, _, _, _, hR, hfin⟩
    case rest =>
      obtain ⟨es, n, vv1, st1, hR, hfin⟩ := hcut
      obtain ⟨w2, hw2⟩ : ∃ w2, w2 = wc := ⟨_, rfl⟩
      subst hw2
      have hL := lroad_of_row hR1 hR
      obtain ⟨v, hv'⟩ : ∃ v, v = u5 := ⟨_, rfl⟩
      subst hv'
      obtain ⟨bb, hbb⟩ : ∃ b, b = isB st1 (tk toks st1.i) (B [124]) := ⟨_, rfl⟩
      have HI2 := hide (is_any hR.P hg (B [124]))
      rw [← hbb] at HI2
      have HBB2 := hide hbb
      clear hbb
      have HF := hide hfin
      have HRo := hide hR
      clear hfin hR HS
      go_upto_if 26 with (go_at_call 81; refine HI2.out.mono ?_; rintro e w3 ⟨b, rfl, rfl, hP3, hfr3⟩)
      go_cut [] (fun wx => ∃ cs vv2 st2, LRoad w w1 bp toks lv vv st w.heap.size (w.heap.size + 1) wx cs vv2 st2 v n es ∧ LFin w w1 bp vv2 st w.heap.size (w.heap.size + 1) wx cs st2 v n es (midOf toks ex (st.i, st.vars)))
      case first =>
        cases b with
        | false =>
          go_wp2_with fail
          go_meet
          case rel => exact ⟨_, _, _, hL.go hP3 hfr3 rfl, bar_no HF.out HT.out (Nat.le_refl _) HBB2.out.symm hfr3⟩
        | true =>
          have hL3 := hL.go hP3 hfr3 rfl
          have hd1 : st1.deep = d := HRo.out.deep.trans hd
          have hv1 : st1.vars.length ≤ 12 ∧ st1.err = 0 := row_vars HF.out HBB2.out.symm
          go_wp2_with (go_at_call 64; refine (HP.out _ _ _ _ _ hP3 hv1.2 hv1.1 hd1).mono ?_; rintro e w4 ⟨ds, vv3, st3, rfl, ⟨z0, z1, z2, z3, z4, z5, z6, rfl⟩, hP4, hfr4, hdp4, hok4⟩; have hL4 := hL3.go hP4 hfr4 hdp4; obtain ⟨c0, c1, c2, c3, c4, cf⟩ := box5 hL4.R.box)
          go_meet
          case rel => exact ⟨_, _, _, hL4.fill z0 z1 z2 z3 z4 z5 z6, bar_yes hL3 HF.out HT.out (Nat.le_refl _) HBB2.out.symm hfr3 hfr4 hok4⟩
      case rest =>
        obtain ⟨cs, vv2, st2, hL2, hfin2⟩ := hcut
        have HF2 := hide hfin2
        clear hfin2
        obtain ⟨ao, cap, hao⟩ := row_form hL2.own
        subst hao
        have hsm := hL2.small
        go_upto_block 2 with (go_at_call 52; refine (must_any hL2.R.P hg _).mono ?_; rintro e w5 ⟨rfl, hP5, hfr5⟩)
        obtain ⟨st5, hst5⟩ : ∃ s, s = (if isB st2 (tk toks st2.i) (B [93]) then st2.pass else st2.fault 2 (tk toks st2.i).a) := ⟨_, rfl⟩
        have hP5' : PIn w5 bp toks lv vv2 st5 := by rw [hst5]; exact hP5
        have hd5 : st5.deep = st2.deep := by rw [hst5]; split; rfl; exact PS.fault_deep _ _ _
        have HST5 := hide hst5
        have hL5 := hL2.go hP5' hfr5 hd5
        have HF5 := hide (fold_start HF2.out hfr5)
        clear hst5 hP5
        go_cut [9] (fun _ wx => ∃ cs', LRoad w w1 bp toks lv vv st w.heap.size (w.heap.size + 1) wx cs' vv2 st5 (.slice ao n cap) n es ∧ FoldAt w w1 bp vv2 w.heap.size (w.heap.size + 1) wx cs' (.slice ao n cap) n es 0 (midOf toks ex (st.i, st.vars)))
        case first =>
          go_wp2_with fail
          go_loopg [9] n (fun k i wr => k ≤ n ∧ i = .int .i64 ((k : Int) - 1) ∧ ∃ cs', LRoad w w1 bp toks lv vv st w.heap.size (w.heap.size + 1) wr cs' vv2 st5 (.slice ao n cap) n es ∧ FoldAt w w1 bp vv2 w.heap.size (w.heap.size + 1) wr cs' (.slice ao n cap) n es k (midOf toks ex (st.i, st.vars)))
          case atStart => exact ⟨Nat.le_refl _, rfl, _, hL5, HF5.out⟩
          case round =>
            obtain ⟨hkn, rfl, cs', hL6, hfold⟩ := hrel
            obtain ⟨y0, y1, y2, y3, y4, y5, y6, rfl⟩ := hL6.R.shape
            obtain ⟨c0, c1, c2, c3, c4, cf⟩ := box5 hL6.R.box
            have hbx6 := hL6.R.bX
            have HFO := hide hfold
            clear hfold
            by_cases hk0 : gk = 0
            · subst hk0
              go_wp2_with fail
              go_meet
              case rel => exact ⟨_, hL6, HFO.out⟩
            · obtain ⟨k, rfl⟩ : ∃ k, gk = k + 1 := ⟨gk - 1, by omega⟩
              obtain ⟨g, a, b', c, d', x, y, z, rfl, hcap, hmx, hgl, hes, q0, q1, q2, q3, q4⟩ := own_elem hL6.own hL6.shapes (k := k) (by omega)
              have HES := hide hes
              clear hes
              go_wp2_with fail
              go_region
              go_wp2_with fail
              go_roundg k
              case measure => omega
              case rel =>
                have hst := fold_step hL6 HFO.out (by omega) HES.out
                exact ⟨by omega, by go_num, _, hst.1, hst.2⟩
        case rest =>
          obtain ⟨cs', hL6, hfold⟩ := hcut
          obtain ⟨y0, y1, y2, y3, y4, y5, y6, rfl⟩ := hL6.R.shape
          obtain ⟨c0, c1, c2, c3, c4, cf⟩ := box5 hL6.R.box
          obtain ⟨d0, d1, d2, d3, d4, df⟩ := box5 hL6.R.res
          have HEND := hide (list_end HF2.out HST5.out hfold HL.out)
          clear hfold
          go_wp2_with fail
          exact bodyPost_ret (v := .agg #[.int .u8 y0, .string y1, .int .i64 y2, .int .i64 y3, .slice y4 y5 y6]) (by simp [results, Tryz.results235, go_sem, d0, d1, d2, d3, d4]) rfl (road_end hL6.R HEND.out)
end Go.Proofs.YtodpkdajbnceoaaGreatDoor
