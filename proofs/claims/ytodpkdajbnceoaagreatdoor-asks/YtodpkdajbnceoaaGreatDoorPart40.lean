import Derived.WideKeyRuns
import Derived.Test.YtodpkdajbnceoaaGreatDoorPart39
set_option linter.all false
set_option maxHeartbeats 4000000
set_option maxRecDepth 100000
namespace Go.Proofs.YtodpkdajbnceoaaGreatDoor
open Go.RowKit
def pk (n : ByteArray) (k : Int) : Value := .agg #[.string n, .int .i64 k]
theorem Tryz.predStruct : Tryz.prog.underlying 220 = some (.struct (Tryz.prog.fieldsOf 220)) := by kernel_rfl
theorem Tryz.predFields : (Tryz.prog.fieldsOf 220).toList.map (fun f : Field => (f.name, f.type, f.offset)) = [("Name", 9, 0), ("Arity", 3, 1)] := by kernel_rfl
theorem Tryz.predHeld : Tryz.prog.stoodInHeld 220 = false := by kernel_rfl
theorem Tryz.underlyingProg : Tryz.prog.underlying 159 = some (.map 220 189) := by kernel_rfl
theorem Tryz.plainStr : Tryz.prog.plainKey 9 = true := by kernel_rfl
theorem Tryz.plainInt : Tryz.prog.plainKey 3 = true := by kernel_rfl
theorem pk_check (e : Bool) (n : ByteArray) (k : Int) (w : World) : (Instr.checkKey e 10000 220 (pk n k)).run Tryz.prog w = .ok () w := by kernel_rfl
theorem fields2 {l : List Field} {t0 t1 : TypeId} (hf : l.map (fun f : Field => (f.name, f.type, f.offset)) = [("Name", t0, 0), ("Arity", t1, 1)]) : ∃ f0 f1 : Field, l = [f0, f1] ∧ (f0.name = "Name" ∧ f0.type = t0 ∧ f0.offset = 0) ∧ f1.name = "Arity" ∧ f1.type = t1 ∧ f1.offset = 1 := by
  match l, hf with
  | [], hf => simp at hf
  | [_], hf => simp at hf
  | _ :: _ :: _ :: _, hf => simp at hf
  | [f0, f1], hf =>
    simp only [List.map_cons, List.map_nil, List.cons.injEq, Prod.mk.injEq, and_true] at hf
    exact ⟨f0, f1, rfl, hf.1, hf.2⟩
theorem pk_eq (n m : ByteArray) (k j : Int) (w : World) : (Op.equal 220 (pk n k) (pk m j)).run Tryz.prog w = .ok (decide (n = m ∧ k = j)) w := by
  obtain ⟨f0, f1, hl, ⟨a1, a2, a3⟩, b1, b2, b3⟩ := fields2 Tryz.predFields
  have p0 : ∀ s : ByteArray, ∀ z : Int, (part 9 #[.string s, .int .i64 z] 0).run Tryz.prog w = .ok (.string s) w := fun s z => run_part_plain w Tryz.plainStr rfl
  have p1 : ∀ s : ByteArray, ∀ z : Int, (part 3 #[.string s, .int .i64 z] 1).run Tryz.prog w = .ok (.int .i64 z) w := fun s z => run_part_plain w Tryz.plainInt rfl
  have e0 : ∀ d : Nat, (Op.equalIn (d + 1) 9 (.string n) (.string m)).run Tryz.prog w = .ok (n == m) w := fun d => by simp [Op.equalIn, run_underlying Tryz.underlying9]
  have e1 : ∀ d : Nat, (Op.equalIn (d + 1) 3 (.int .i64 k) (.int .i64 j)).run Tryz.prog w = .ok (k == j) w := fun d => by simp [Op.equalIn, run_underlying Tryz.underlying3]
  have hb : (n == m) = decide (n = m) := by rw [Bool.eq_iff_iff, decide_eq_true_iff]; exact MapKept.bytes_beq n m
  have h : ∀ d : Nat, (Op.equalIn (d + 2) 220 (pk n k) (pk m j)).run Tryz.prog w = .ok (decide (n = m ∧ k = j)) w := fun d => by
    unfold pk
    rw [run_equalIn_struct w (d + 1) _ _ _ Tryz.predStruct Tryz.predHeld, hl]
    have q0 : ¬ ("Name" : String) = "_" := by decide
    have q1 : ¬ ("Arity" : String) = "_" := by decide
    simp only [Op.eqFields, a1, a2, a3, b1, b2, b3, ne_eq, q0, q1, not_false_eq_true, if_true, Sem.run_bind, p0, p1, e0, e1, Result.andThen_ok, hb]
    by_cases h1 : n = m
    · rw [decide_eq_true h1]
      simp only [Bool.not_true, Bool.false_eq_true, if_false, Sem.run_bind, p1, e1, Result.andThen_ok]
      by_cases h2 : k = j
      · simp [h1, h2]
      · simp [h2]
    · simp [h1]
  exact h 9998
structure TE where
  n : ByteArray
  k : Nat
  v : Value
  cs : List (List Value)
def entsP : Nat → List TE → List MapEntry
  | _, [] => []
  | i, e :: l => { key := pk e.n e.k, val := e.v, born := i } :: entsP (i + 1) l
def idxP (n : ByteArray) (k : Nat) : List TE → Option Nat
  | [] => none
  | e :: l => if e.n = n ∧ e.k = k then some 0 else (idxP n k l).map (· + 1)
theorem entsP_len : ∀ (i : Nat) (l : List TE), (entsP i l).length = l.length
  | _, [] => rfl
  | i, _ :: l => by simp [entsP, entsP_len (i + 1) l]
theorem entsP_get : ∀ (i : Nat) (l : List TE) (q : Nat) (e : TE), l[q]? = some e → (entsP i l)[q]? = some { key := pk e.n e.k, val := e.v, born := i + q }
  | i, [], q, e, h => by simp at h
  | i, a :: l, 0, e, h => by simp at h; subst h; rfl
  | i, a :: l, q + 1, e, h => by
    rw [entsP, List.getElem?_cons_succ, entsP_get (i + 1) l q e (by simpa using h), show i + 1 + q = i + (q + 1) by omega]
theorem entsP_snoc (e : TE) : ∀ (i : Nat) (l : List TE), entsP i (l ++ [e]) = entsP i l ++ [{ key := pk e.n e.k, val := e.v, born := i + l.length }]
  | i, [] => by simp [entsP]
  | i, a :: l => by
    have e1 : i + 1 + l.length = i + (a :: l).length := by simp; omega
    rw [List.cons_append, entsP, entsP_snoc e (i + 1) l, entsP, e1]
    rfl
theorem entsP_set : ∀ (i : Nat) (l : List TE) (q : Nat) (e : TE) (v : Value) (cs : List (List Value)), l[q]? = some e → entsP i (l.set q { e with v := v, cs := cs }) = (entsP i l).modify q fun x => { x with val := v }
  | i, [], q, e, v, cs, h => by simp at h
  | i, a :: l, 0, e, v, cs, h => by simp at h; subst h; rfl
  | i, a :: l, q + 1, e, v, cs, h => by
    rw [List.set_cons_succ, entsP, entsP_set (i + 1) l q e v cs (by simpa using h), entsP]
    rfl
theorem idxP_some {n : ByteArray} {k : Nat} : ∀ {l : List TE} {q : Nat}, idxP n k l = some q → ∃ e, l[q]? = some e ∧ e.n = n ∧ e.k = k
  | [], q, h => by simp [idxP] at h
  | a :: l, q, h => by
    rw [idxP] at h
    split at h
    · rename_i hq
      injection h with h; subst h
      exact ⟨a, rfl, hq.1, hq.2⟩
    · obtain ⟨j, hj, rfl⟩ := Option.map_eq_some_iff.1 h
      obtain ⟨e, h1, h2⟩ := idxP_some hj
      exact ⟨e, by simpa using h1, h2⟩
theorem findAskP (n : ByteArray) (k : Nat) (w : World) : ∀ (l : List TE) (i j : Nat), (Instr.findAsking 220 (pk n k) (entsP i l) j).run Tryz.prog w = .ok ((idxP n k l).bind fun q => (l[q]?).map fun e => (j + q, e.v)) w
  | [], i, j => by simp [entsP, Instr.findAsking, idxP]
  | a :: l, i, j => by
    rw [entsP, Instr.findAsking]
    simp only [Sem.run_bind, pk_eq, Result.andThen_ok, idxP]
    by_cases h : a.n = n ∧ a.k = k
    · rw [if_pos h, if_pos (by simp [h.1, h.2])]
      simp
    · rw [if_neg h, if_neg (by
        simp only [decide_eq_true_eq]
        rintro ⟨h1, h2⟩
        exact h ⟨h1.symm, by omega⟩), findAskP n k w l (i + 1) (j + 1)]
      congr 1
      cases idxP n k l with
      | none => rfl
      | some q =>
        simp only [Option.bind_some, Option.map_some, List.getElem?_cons_succ]
        cases l[q]? with
        | none => rfl
        | some e => simp; omega
theorem findP (n : ByteArray) (k : Nat) (w : World) (l : List TE) : (Instr.findKey 220 (pk n k) (entsP 0 l)).run Tryz.prog w = .ok ((idxP n k l).bind fun q => (l[q]?).map fun e => (q, e.v)) w := by
  rw [run_findKey_eq w (by rw [Tryz.predStruct]) (pk n k) (entsP 0 l), findAskP n k w l 0 0]
  simp
theorem Tryz.zeroCls (w : World) : (zeroValue 189).run Tryz.prog w = .ok (.slice none 0 0) w := by kernel_rfl
theorem stays_pk (n : ByteArray) (k : Int) (w : World) : (Instr.keyThatStays (pk n k) (pk n k)).run Tryz.prog w = .ok (pk n k) w := by
  have h : Instr.sameBits 10000 (pk n k) (pk n k) = true := by
    unfold pk
    have hb : (n == n) = true := (MapKept.bytes_beq n n).2 rfl
    simp [Instr.sameBits, hb]
  simp [Instr.keyThatStays, h]
def setM (w : World) (mb : Nat) (l : List TE) : World := { w with heap := w.heap.setIfInBounds mb (.map (entsP 0 l).toArray l.length) }
theorem setM_at {w : World} {mb : Nat} {o : Obj} (h : w.heap[mb]? = some o) (l : List TE) : (setM w mb l).heap[mb]? = some (.map (entsP 0 l).toArray l.length) := by
  unfold setM
  simp only [Array.getElem?_setIfInBounds]
  rw [if_pos trivial, if_pos (Array.getElem?_eq_some_iff.1 h).1]
theorem setM_other (w : World) (mb : Nat) (l : List TE) {b : Nat} (hb : b ≠ mb) : (setM w mb l).heap[b]? = w.heap[b]? := by
  unfold setM
  simp only [Array.getElem?_setIfInBounds]
  rw [if_neg (fun e => hb e.symm)]
theorem setM_self {w : World} {mb : Nat} {l : List TE} (h : w.heap[mb]? = some (.map (entsP 0 l).toArray l.length)) : setM w mb l = w := by
  obtain ⟨h1, h2⟩ := Array.getElem?_eq_some_iff.1 h
  have : w.heap.setIfInBounds mb (.map (entsP 0 l).toArray l.length) = w.heap := by
    apply Array.ext
    · simp
    · intro i hi hj
      by_cases q : mb = i
      · subst q; simp [h2]
      · rw [Array.getElem_setIfInBounds_ne (by omega) q]
  unfold setM
  rw [this]
theorem entry_old {w : World} {mb : Nat} {l : List TE} {n : ByteArray} {k q : Nat} {e : TE} (h : w.heap[mb]? = some (.map (entsP 0 l).toArray l.length)) (hq : idxP n k l = some q) (he : l[q]? = some e) :
    (Instr.mapEntry 159 (.map (some mb)) (pk n k)).run Tryz.prog w = .ok (.tuple #[e.v, .int .i64 q]) w := by
  obtain ⟨e', h1, h2, h3⟩ := idxP_some hq
  have h1 := Option.some.inj (he.symm.trans h1)
  subst h1
  have hf := findP n k w l
  rw [hq, Option.bind_some, he, Option.map_some] at hf
  have hg : (entsP 0 l)[q]? = some { key := pk n k, val := e.v, born := q } := by
    have := entsP_get 0 l q e he
    rw [h2, h3, Nat.zero_add] at this
    exact this
  have hg' : (entsP 0 l).toArray[q]? = some { key := pk n k, val := e.v, born := q } := by simpa using hg
  have hsame : (entsP 0 l).toArray.modify q (fun e => { e with key := pk n k }) = (entsP 0 l).toArray := by
    apply Array.ext'
    rw [Array.toList_modify]
    apply List.ext_getElem?
    intro i
    rw [List.getElem?_modify]
    by_cases hi : q = i
    · subst hi; simp [hg]
    · simp [hi]
  simp only [Instr.mapEntry, Sem.run_bind, run_underlying Tryz.underlyingProg, Result.andThen_ok, MapKept.run_getObj_map h, pk_check, hf, hg', Option.map_some, Option.getD_some, stays_pk, hsame, MapKept.run_setObj_map _ h, Sem.run_pure]
  have := setM_self h
  unfold setM at this
  rw [this]
  rfl
theorem entry_new {w : World} {mb : Nat} {l : List TE} {n : ByteArray} {k : Nat} (h : w.heap[mb]? = some (.map (entsP 0 l).toArray l.length)) (hq : idxP n k l = none) :
    (Instr.mapEntry 159 (.map (some mb)) (pk n k)).run Tryz.prog w = .ok (.tuple #[.slice none 0 0, .int .i64 l.length]) (setM w mb (l ++ [⟨n, k, .slice none 0 0, []⟩])) := by
  have hf := findP n k w l
  rw [hq, Option.bind_none] at hf
  simp only [Instr.mapEntry, Sem.run_bind, run_underlying Tryz.underlyingProg, Result.andThen_ok, MapKept.run_getObj_map h, pk_check, hf, Tryz.zeroCls, MapKept.run_setObj_map _ h, Sem.run_pure]
  unfold setM
  rw [entsP_snoc]
  simp [goInt]
theorem store_entry {w : World} {mb q : Nat} {l : List TE} {e : TE} (h : w.heap[mb]? = some (.map (entsP 0 l).toArray l.length)) (he : l[q]? = some e) (v : Value) (cs : List (List Value)) :
    (Instr.entryStore 159 (.map (some mb)) (.int .i64 q) v).run Tryz.prog w = .ok () (setM w mb (l.set q { e with v := v, cs := cs })) := by
  have hidx : (entsP 0 l).toArray.findIdx? (fun e => ((e.born : Nat) : Int) == ((q : Nat) : Int)) = some q := by
    have hql : q < (entsP 0 l).length := by rw [entsP_len]; exact (List.getElem?_eq_some_iff.1 he).1
    rw [List.findIdx?_toArray, List.findIdx?_eq_some_iff_getElem]
    refine ⟨hql, ?_, fun j hj => ?_⟩
    · have := entsP_get 0 l q e he
      rw [List.getElem?_eq_getElem hql] at this
      injection this with this
      rw [this]; simp
    · have hjl : j < l.length := by rw [entsP_len] at hql; omega
      have := entsP_get 0 l j l[j] (List.getElem?_eq_getElem hjl)
      rw [List.getElem?_eq_getElem (by rw [entsP_len]; exact hjl)] at this
      injection this with this
      rw [this]
      simp; omega
  simp only [Instr.entryStore, Sem.run_bind, Result.andThen_ok, MapKept.run_getObj_map h, asInt, asIntOf, hidx, MapKept.run_setObj_map _ h, Sem.run_pure]
  unfold setM
  rw [entsP_set 0 l q e v cs he]
  simp
def ClRow (r : List Value) : Prop := ∃ (n : ByteArray) (a : Option Addr) (k c : Nat) (t : TypeId) (v : Value) (va : Option Addr) (vn vc : Nat), r = [.string n, .slice a k c, .iface t v, .slice va vn vc]
def ClRows (w : World) (n0 : Nat) (v : Value) (n : Nat) (rs : List (List Value)) : Prop := w.ownsRow n0 228 4 v n rs.flatten ∧ rs.length = n ∧ n ≤ 40 ∧ ∀ r ∈ rs, ClRow r
def PgP (toks : List Tok) (bp : Nat) (lv : Value) (w : World) (r : Except (Int × Nat) (List Cl)) (e : Ending) (w' : World) : Prop :=
  match r with
  | .error (er, a) => RFault er a bp lv (.slice none 0 0) 0 w e w'
  | .ok _ => ∃ (a : Option Addr) (n c : Nat) (vv' : Value) (st' : St) (vbs' : List Nat), e = .returned (.slice a n c) ∧ RIn w' bp toks lv vv' st'.1 0 st'.2 vbs' ∧ (tk toks st'.1).k = 101 ∧ Fr bp (.slice none 0 0) vv' w w' ∧ ∃ rs, ClRows w' w.heap.size (.slice a n c) n rs
theorem PgP.errI {toks : List Tok} {bp : Nat} {lv : Value} {w : World} {r : Except (Int × Nat) (List Cl)} {er : Int} {a : Nat} {e : Ending} {w' : World} (hr : r = .error (er, a)) (h : RFault er a bp lv (.slice none 0 0) 0 w e w') : PgP toks bp lv w r e w' := by subst hr; exact h
theorem PgP.okI {toks : List Tok} {bp : Nat} {lv : Value} {w : World} {r : Except (Int × Nat) (List Cl)} {l : List Cl} {w' : World} {a : Option Addr} {n c : Nat} {vv' : Value} {st' : St} {vbs' : List Nat} (hr : r = .ok l) (h1 : RIn w' bp toks lv vv' st'.1 0 st'.2 vbs') (h2 : (tk toks st'.1).k = 101) (h3 : Fr bp (.slice none 0 0) vv' w w') (h4 : ∃ rs, ClRows w' w.heap.size (.slice a n c) n rs) : PgP toks bp lv w r (.returned (.slice a n c)) w' := by
  subst hr; exact ⟨a, n, c, vv', st', vbs', rfl, h1, h2, h3, h4⟩
theorem Tryz.infoClause : (Tryz.prog.info? 228).map (fun i => (i.zero, i.size, i.bytes)) = some (some (.agg clZero), 4, 80) := by kernel_rfl
theorem Tryz.underlyingClauses : Tryz.prog.underlying 189 = some (.slice 228) := by kernel_rfl
theorem Fr.of_nil {bp : Nat} {v1 v2 : Value} {a b : World} (h : Fr bp (.slice none 0 0) v2 a b) : Fr bp v1 v2 a b :=
  ⟨h.os, h.tape, h.output, h.size, fun x hx h1 _ => h.block x hx h1 (by simp [Value.ownBlock]), fun x e => by
    rcases h.vnew x e with q | q
    · simp [Value.ownBlock] at q
    · exact .inr q⟩
structure PgOn (toks : List Tok) (bp : Nat) (lv : Value) (cl : Nat → R Cl) (total : Except (Int × Nat) (List Cl)) (w : World) (v : Value) (wr : World) (acc : List Cl) (cs : List Value) (st1 : St) (vv1 : Value) (vbs1 : List Nat) : Prop where
  own : wr.ownsRow w.heap.size 228 4 v acc.length cs
  rin : RIn wr bp toks lv vv1 st1.1 0 st1.2 vbs1
  fr : Fr bp (.slice none 0 0) vv1 w wr
  small : acc.length ≤ 40
  rows : ∃ rs : List (List Value), cs = rs.flatten ∧ rs.length = acc.length ∧ ∀ r ∈ rs, ClRow r
  eq : progOf toks cl (41 - acc.length) acc st1.1 = total
theorem row_growT {w w0 w2 : World} {bp : Nat} {toks : List Tok} {lv vv : Value} {i : Nat} {d : Int} {vars : List ByteArray} {vbs : List Nat} {v : Value} {o : Obj} {us : List Value} {m sz : Nat} {T : TypeId} (h : RIn w bp toks lv vv i d vars vbs) (hown : w.ownsRow w0.heap.size T sz v m us)
    (h1 : T ≠ 295) (h2 : T ≠ 298) (h3 : T ≠ 267) (h4 : T ≠ 269) (hg : (w.alloc o).grownBy w2 v.ownBlock) (hw : w0.heap.size ≤ w.heap.size) :
    RIn w2 bp toks lv vv i d vars vbs ∧ (∀ vv0, Fr bp vv0 vv w0 w → Fr bp vv0 vv w0 w2) := by
  have hblk : ∀ b, v.ownBlock = some b → w0.heap.size ≤ b ∧ ∃ cs, w.heap[b]? = some (.cells cs T (0, 0)) := fun b hb => by
    rcases hown.2 with ⟨hl, _⟩ | ⟨g, cap, cur, rfl, r1, r2, _⟩
    · rw [hl] at hb; cases hb
    · cases hb; exact ⟨r1, cur, r2⟩
  have hkeep : ∀ b, b < w.heap.size → v.ownBlock ≠ some b → w2.heap[b]? = w.heap[b]? := fun b hb hv => by
    rw [hg.block b (by simp; omega) (fun e => hv e.symm), Below.heap_alloc _ _ _ hb]
  have hnv : ∀ b, (b = bp ∨ lv.ownBlock = some b ∨ vv.ownBlock = some b ∨ b ∈ vbs) → v.ownBlock ≠ some b := fun b e hv => by
    obtain ⟨_, cs, hcs⟩ := hblk b hv
    exact h.no_T hcs h1 h2 h3 h4 e
  refine ⟨h.keep fun b e => hkeep b (h.blt b e) (hnv b e), fun vv0 hf => ?_⟩
  refine ⟨hg.os.trans hf.os, hg.tape.trans hf.tape, hg.output.trans hf.output, by have := hg.size; simp at this; omega, fun b hb1 q1 q2 => ?_, hf.vnew⟩
  rw [hkeep b (by omega) (fun e => by have := (hblk b e).1; omega)]
  exact hf.block b hb1 q1 q2
theorem cells4n (w : World) (x0 x1 x2 x3 : Value) (T : TypeId) : ∀ j u, [x0, x1, x2, x3][j]? = some u → (w.alloc (.cells #[x0, x1, x2, x3] T)).cell? ((⟨w.heap.size, 0, none⟩ : Addr).add j) = some u := by
  intro j u h
  have hadd : (⟨w.heap.size, 0, none⟩ : Addr).add j = ⟨w.heap.size, j, none⟩ := by unfold Addr.add; split <;> simp_all
  rw [hadd, cell_of_block (heap_alloc_new w _)]
  simpa using h
theorem program_c {toks : List Tok} (hg : GoodToks toks) (ht : TTs toks) {cl : Nat → R Cl}
    (HC : ∀ (w : World) (bp : Nat) (lv vv : Value) (st : St) (vbs : List Nat), RIn w bp toks lv vv st.1 0 st.2 vbs → Calls Tryz.prog 187 #[ptrV bp] w fun e w' => ClP toks bp lv w (cl st.1) e w')
    (w : World) (bp : Nat) (lv : Value) (h : RIn w bp toks lv (.slice none 0 0) 0 0 [] []) :
    Calls Tryz.prog 145 #[ptrV bp] w fun e w' => PgP toks bp lv w (progOf toks cl 41 [] 0) e w' := by
  have HC' := hide HC
  obtain ⟨total, htot⟩ : ∃ t, progOf toks cl 41 [] 0 = t := ⟨_, rfl⟩
  rw [htot]
  have HT := hide htot
  clear htot HC
  have ff0 := tok_f0
  have ff2 := tok_f2
  have HF := hide newFault_c
  obtain ⟨i0, hi, hz0, hz1, hz2⟩ := info_parts Tryz.infoClause
  unfold ptrV at *
  go_enter Tryz.func145, Tryz.ntmps145
  go_upto_block 0 with fail
  go_cut [3] (fun v wx => ∃ (a : Option Addr) (n c : Nat) (acc : List Cl) (vv1 : Value) (st1 : St) (vbs1 : List Nat), v = .slice a n c ∧ total = .ok acc ∧ RIn wx bp toks lv vv1 st1.1 0 st1.2 vbs1 ∧ (tk toks st1.1).k = 101 ∧ Fr bp (.slice none 0 0) vv1 w wx ∧ ∃ rs, ClRows wx w.heap.size v n rs)
  case first =>
    go_wp2_with fail
    go_loopg [3] 42 (fun g v wr => ∃ acc cs st1 vv1 vbs1, PgOn toks bp lv cl total w v wr acc cs st1 vv1 vbs1 ∧ 41 - acc.length < g)
    case atStart => exact ⟨[], [], (0, []), _, [], ⟨World.ownsRow_nil _ _ _ _, h, Fr.refl _ _ _, by simp, ⟨[], rfl, rfl, by simp⟩, HT.out⟩, by simp⟩
    case round =>
      obtain ⟨acc, cs, st1, vv1, vbs1, hO, hgk⟩ := hrel
      obtain ⟨ao, cap, hv⟩ := row_form hO.own
      subst hv
      have hsm := hO.small
      have HN := hide (now_c hO.rin hg)
      have hke := (ht st1.1).kC_end
      have heq := hO.eq
      rw [prog_one toks cl acc.length hsm acc st1.1] at heq
      obtain ⟨t, hT⟩ : ∃ t, t = tk toks st1.1 := ⟨_, rfl⟩
      rw [← hT] at HN hke heq
      have HTK := hide hT
      clear hT
      unfold tokVC tokB ptrV at HN
      have r1 := (hO.rin.alloc (tokB t)).drew
      have f1 := ((Fr.refl bp vv1 wr).alloc (tokB t)).drew
      have hBt : Below wr.heap.size wr (wr.alloc (tokB t)).drew := ((Below.refl _ _).alloc (Nat.le_refl _) _).drew
      unfold tokB at r1 f1 hBt
      by_cases hk : t.k = 101
      · have hk4 : kC t.k = 4 := hke.2 hk
        have hk5 : (kC t.k == 4) = true := by rw [hk4]; rfl
        rw [if_pos hk] at heq
        have HEQ := hide heq.symm
        have HKK : Hid ((tk toks st1.1).k = 101) := by rw [Hid, ← HTK.out]; exact hk
        clear heq hke hk hk4
        go_wp2_with (go_at_call 156; refine HN.out.mono ?_; rintro e w2 ⟨rfl, rfl⟩)
        go_meet
        case rel =>
          obtain ⟨rs, q1, q2, q3⟩ := hO.rows
          refine ⟨_, _, _, acc, vv1, st1, vbs1, rfl, HEQ.out, r1, HKK.out, hO.fr.trans f1, rs, ?_, q2, hsm, q3⟩
          rw [← q1]
          exact own_bl hO.own hBt
      · have hk4 : ¬ kC t.k = 4 := fun e => hk (hke.1 e)
        have hk5 : (kC t.k == 4) = false := by simpa using hk4
        rw [if_neg hk] at heq
        clear hke hk hk4
        by_cases h40 : acc.length = 40
        · rw [if_pos h40] at heq
          have HEQ := hide heq.symm
          have h40' : ((acc.length : Int) == 40) = true := by rw [h40]; rfl
          have HN2 := hide (now_c r1 hg)
          rw [← HTK.out] at HN2
          unfold tokVC tokB ptrV at HN2
          have r2 := (r1.alloc (tokB t)).drew
          have f2 := (f1.alloc (tokB t)).drew
          unfold tokB at r2 f2
          clear heq h40
          go_wp2_with (go_at_call 156; refine HN.out.mono ?_; rintro e w2 ⟨rfl, rfl⟩; clear HN)
          refine HN2.out.mono ?_
          rintro e w3 ⟨rfl, rfl⟩
          go_wp2_with (go_at_call 154; refine (HF.out _ _ _).mono ?_; rintro e w7 ⟨g, hg2, rfl, hcell, hB7⟩)
          exact ⟨rfl, .errI HEQ.out ((r2.faulted hg2 hcell hB7).after (hO.fr.trans f2))⟩
        · rw [if_neg h40] at heq
          have h40' : ((acc.length : Int) == 40) = false := by simpa using (show ¬ (acc.length : Int) = 40 by omega)
          have HCl := hide (HC'.out _ _ _ _ _ _ r1)
          cases hr : cl st1.1 with
          | error p =>
            obtain ⟨er, a⟩ := p
            rw [hr] at heq HCl
            have HEQ : Hid (total = .error (er, a)) := heq.symm
            have HCl' : Hid (Calls Tryz.prog 187 #[.pointer (some ⟨bp, 0, none⟩)] _ fun e w' => RFault er a bp lv (.slice none 0 0) 0 _ e w') := HCl.out
            clear heq hr HCl
            go_wp2_with (first | (go_at_call 156; refine HN.out.mono ?_; rintro e w2 ⟨rfl, rfl⟩) | (go_at_call 187; refine HCl'.out.mono ?_; rintro e w3 hF; have hF' := hF; obtain ⟨g, vv', i', h1, rfl, h3, h4, h5⟩ := hF))
            exact ⟨rfl, .errI HEQ.out ⟨g, vv', i', Nat.le_trans (hO.fr.trans f1).size h1, rfl, h3, (hO.fr.trans f1).trans h4.of_nil, h5⟩⟩
          | ok p =>
            obtain ⟨c, s⟩ := p
            rw [hr] at heq HCl
            have HEQ : Hid (progOf toks cl (40 - acc.length) (acc ++ [c]) s.1 = total) := heq
            have HCl' : Hid (Calls Tryz.prog 187 #[.pointer (some ⟨bp, 0, none⟩)] _ fun e w' => ∃ (n : ByteArray) (a : Option Addr) (k c : Nat) (t : TypeId) (v : Value) (va : Option Addr) (vn vc : Nat) (vv' : Value) (vbs' : List Nat), e = .returned (.agg #[.string n, .slice a k c, .iface t v, .slice va vn vc]) ∧ RIn w' bp toks lv vv' s.1 0 s.2 vbs' ∧ Fr bp (.slice none 0 0) vv' _ w') := HCl.out
            clear heq hr HCl
            have hown1 := own_bl hO.own hBt
            have hvbp : (Value.slice ao acc.length cap).ownBlock ≠ some bp := fun e => by have := (hO.own.lt bp e).1; have := h.lt_size; omega
            go_wp2_with (first | (go_at_call 156; refine HN.out.mono ?_; rintro e w2 ⟨rfl, rfl⟩) | (go_at_call 187; refine HCl'.out.mono ?_; rintro e w3 ⟨n3, a3, k3, c3, t3, v3, va3, vn3, vc3, vv3, vbs3, rfl, r3, f3⟩; have hown3 := own_fr hown1 f3 hvbp (vnil _)) | (at_builtin; refine wpList_append_own2 rfl _ _ 189 rfl w.heap.size 228 i0 (.agg clZero) 4 80 Tryz.underlyingClauses hi hz0 hz1 hz2 rfl (by decide) _ _ _ rfl (hown3.alloc _) ⟨w3.heap.size, 0, none⟩ 1 1 [.string n3, .slice a3 k3 c3, .iface t3 v3, .slice va3 vn3 vc3] rfl rfl ?c1 ?c2 ?c3 ?c4 ?c5 ?_) | go_in)
            case c1 => exact cells4n _ _ _ _ _ _
            case c2 => intro u hu; simp only [List.mem_cons, List.not_mem_nil, or_false] at hu; rcases hu with rfl | rfl | rfl | rfl <;> rfl
            case c3 => unfold maxLen; omega
            case c4 => omega
            case c5 => have := (hO.fr.trans f1).size; have := f3.size; simp; omega
            intro v' w5 ho hgr hnw
            have hw3 := ((hO.fr.trans f1).trans (v2 := vv3) f3.of_nil)
            obtain ⟨k1, k3'⟩ := row_growT (w0 := w) r3 hown3 (by decide) (by decide) (by decide) (by decide) hgr hw3.size
            have f5 := k3' _ hw3
            have HREL : Hid (∃ acc cs st1 vv1 vbs1, PgOn toks bp lv cl total w v' w5 acc cs st1 vv1 vbs1 ∧ 41 - acc.length < gk - 1) :=
              ⟨acc ++ [c], _, s, vv3, vbs3, ⟨by simpa using ho, k1, f5, by simp; omega, by
                obtain ⟨rs, q1, q2, q3⟩ := hO.rows
                refine ⟨rs ++ [[.string n3, .slice a3 k3 c3, .iface t3 v3, .slice va3 vn3 vc3]], by rw [q1]; simp, by simp [q2], fun r hr => ?_⟩
                rcases List.mem_append.1 hr with hr | hr
                · exact q3 r hr
                · exact ⟨_, _, _, _, _, _, _, _, _, List.mem_singleton.1 hr⟩, by rw [show 41 - (acc ++ [c]).length = 40 - acc.length by simp]; exact HEQ.out⟩, by simp; omega⟩
            clear hnw hgr ho k3'
            go_wp2_with fail
            go_roundg (gk - 1)
            case measure => omega
            case rel => exact HREL.out
  case rest =>
    obtain ⟨a, n, c, acc, vv1, st1, vbs1, rfl, htt, r1, hk1, f1, hrs⟩ := hcut
    have HE := hide htt
    clear htt
    go_wp2_with fail
    go_ret
    exact .okI HE.out r1 hk1 f1 hrs
theorem split_s (s : ByteArray) (w : World) (hs : s.size ≤ 2000) (hsg : SignsIn w) (hng : 1 < w.heap.size) :
    Calls Tryz.prog 155 #[.string s] w fun e w' => SplitPost s w e w' := by
  obtain ⟨i0, hi, hz0, hz1, hz2⟩ := info_parts Tryz.infoTokC
  have HBl := hide blank_c
  have HWB := hide wordByte_c
  have HFW := hide firstWord_c
  have HWK := hide wordKind_c
  have HPt := hide isPoint_c
  have HNF := hide newFault_c
  go_enter Tryz.func155, Tryz.ntmps155
  go_wp2
  go_step3
  go_wp2
  go_step3
  go_wp2
  go_loopg [3, 4] s.size (fun g v i wr => splitRel s w g v i wr)
  case atStart => exact ⟨0, s.size, [], by omega, rfl, by omega, rfl, Nat.le_refl _, World.ownsRow_nil _ _ _ _, Below.refl _ _⟩
  case round =>
    obtain ⟨k, f, acc, hkg, rfl, hf, hgo, hal, hown, hbel⟩ := hrel
    have HG := hide hgo
    clear hgo
    have hk : k ≤ s.size := by omega
    by_cases hlt : k < s.size
    · obtain ⟨f, rfl⟩ : ∃ g, f = g + 1 := ⟨f - 1, by omega⟩
      go_upto_region 5 with fail
      obtain ⟨R, hR⟩ : ∃ R, R = s.extract k s.size := ⟨_, rfl⟩
      rw [← hR]
      have hRe : R = restA s k := hR
      have hRs : R.size = s.size - k := by rw [hRe, restA_size]
      have hR0 : 0 < R.size := by omega
      have hRg : R[0] = s[k] := by subst hRe; exact restA_get s k 0 hlt
      have hRf := hide (restA_front s k hk)
      have hRp := hide (restA_point s k hlt)
      have hRx := hide (hasPrefix_hasAt s k hk)
      rw [← hRe] at hRf hRp hRx
      have hws := hbel.size
      have HRe := hide hRe
      clear hR hRe
      by_cases hb : blankB (R[0].toNat : Int) = true
      · have HG' : Hid (lexGo s f (k + 1) acc = lexS s) := by rw [← lexGo_blank hlt (by rw [← hRg]; exact (blankB_iff _).1 hb)]; exact HG.out
        clear hRf hRp hRx hRg
        go_wp2_with (first | (go_at_call 194; refine (HBl.out _ _).mono ?_; rintro e w' ⟨rfl, rfl⟩))
        go_roundg (gk - 1)
        case measure => omega
        case rel => exact ⟨k + 1, f, acc, by omega, by go_num, by omega, HG'.out, by omega, hown, hbel⟩
      · have HB : Hid (¬ (s[k] = 32 ∨ s[k] = 10)) := by intro h; rw [← hRg] at h; exact hb ((blankB_iff _).2 h)
        by_cases hwb : wordB (R[0].toNat : Int) = true
        · have hks : k < wordEnd s k := (lex_word_iff s k hlt).2 (by rw [← hRg]; exact hwb)
          have hE2 := wordEnd_le s k hk
          obtain ⟨E, hE⟩ : ∃ E, E = wordEnd s k := ⟨_, rfl⟩
          obtain ⟨F, hF⟩ : ∃ F, F = frontW R := ⟨_, rfl⟩
          have hFe : F = s.extract k E := by rw [hF, hRf.out, hE]
          have hFs : F.size = E - k := by rw [hFe]; simp; omega
          have hF0 : 0 < F.size := by omega
          have hFb : wordB (F[0].toNat : Int) = true := by
            have : F[0] = s[k] := by subst hFe; simp [ByteArray.getElem_extract]
            rw [this, ← hRg]; exact hwb
          have hFz : F.size ≤ 32768 := by omega
          have HFW' : Hid (∀ w, Calls Tryz.prog 196 #[.string R] w fun e w' => e = .returned (.string F) ∧ Below w.heap.size w w') := fun w => by rw [hF]; exact HFW.out R w (by omega)
          have HWK' := hide (fun (a : Int) (w : World) => HWK.out F a w hFz hF0 hFb)
          rw [← hE] at hks hE2
          by_cases hwk : wordK F.data.toList = 0
          · have HR : Hid (lexS s = .error k) := by unfold Hid; rw [← HG.out]; exact lexGo_badword hlt HB.out (by rw [← hE]; exact hks) (by rw [← hE, ← hFe]; exact hwk)
            have HWK2 : Hid (∀ (a : Int) (w : World), Calls Tryz.prog 197 #[.string F, .int .i64 a] w fun e w' => Below w.heap.size w w' ∧ FaultAt 2 a w e w') := fun a w => (HWK'.out a w).mono fun e w' h => ⟨h.1, by have := h.2; rwa [if_pos hwk] at this⟩
            clear hwk hF hFe hRf hRp hRx hRg hFb HWK' HWK HFW HG
            go_wp2_with (first | (go_at_call 194; refine (HBl.out _ _).mono ?_; rintro e w' ⟨rfl, rfl⟩) | (go_at_call 195; refine (HWB.out _ _).mono ?_; rintro e w' ⟨rfl, rfl⟩) | (go_at_call 196; refine (HFW'.out _).mono ?_; rintro e w1 ⟨rfl, hB1⟩) | (go_at_call 197; refine (HWK2.out _ _).mono ?_; rintro e w2 ⟨hB2, g, hg, rfl, hcell⟩))
            have hz1' := hB1.size
            exact ⟨rfl, .err HR.out (below_chain (below_chain hbel hB1) hB2) ⟨g, by omega, rfl, hcell⟩⟩
          · have HG' : Hid (lexGo s f E (acc ++ [⟨wordK F.data.toList, F, k⟩]) = lexS s) := by
              have h := lexGo_word (f := f) (acc := acc) hlt HB.out (by rw [← hE]; exact hks) (by rw [← hE, ← hFe]; exact hwk)
              rw [← hE, ← hFe] at h
              unfold Hid; rw [← h]; exact HG.out
            have HWK2 : Hid (∀ (a : Int) (w : World), Calls Tryz.prog 197 #[.string F, .int .i64 a] w fun e w' => Below w.heap.size w w' ∧ e = .returned (.int .i64 (kC (wordK F.data.toList)))) := fun a w => (HWK'.out a w).mono fun e w' h => ⟨h.1, by have := h.2; rwa [if_neg hwk] at this⟩
            obtain ⟨KK, hKK⟩ : ∃ K, K = wordK F.data.toList := ⟨_, rfl⟩
            rw [← hKK] at HG' HWK2
            obtain ⟨KC, hKC⟩ : ∃ K, K = kC KK := ⟨_, rfl⟩
            rw [← hKC] at HWK2
            have HKC := hide hKC
            clear hwk hF hFe hRf hRp hRx hRg hFb HWK' HWK HFW HG hKK hKC
            go_wp2_with (first | (go_at_call 194; refine (HBl.out _ _).mono ?_; rintro e w' ⟨rfl, rfl⟩) | (go_at_call 195; refine (HWB.out _ _).mono ?_; rintro e w' ⟨rfl, rfl⟩) | (go_at_call 196; refine (HFW'.out _).mono ?_; rintro e w1 ⟨rfl, hB1⟩) | (go_at_call 197; refine (HWK2.out _ _).mono ?_; rintro e w2 ⟨hB2, rfl⟩; have hown2 := own_below (own_below hown hB1) hB2; have hbel2 := below_chain (below_chain hbel hB1) hB2; have hws2 := hbel2.size; clear hown hbel hB1 hB2) | (at_builtin; refine wpList_append_own _ rfl _ _ 292 rfl w.heap.size 298 i0 (.agg #[.int .i64 0, .string ByteArray.empty, .int .i64 0]) 3 32 Tryz.underlyingToksC hi hz0 hz1 hz2 rfl (by decide) _ _ _ rfl (hown2.alloc _) ⟨w2.heap.size, 0, none⟩ 1 1 [.int .i64 KC, .string F, .int .i64 k] rfl rfl ?c1 ?c2 ?c3 ?c4 ?c5 ?_))
            case c1 => exact cells3 _ _ _ _ _
            case c2 => intro u hu; simp at hu; rcases hu with rfl | rfl | rfl <;> rfl
            case c3 => unfold maxLen; omega
            case c4 => omega
            case c5 => simp; omega
            intro v' w9 hown' hgrow _
            have hb1 := grow_below hbel2 hown2 hgrow (Nat.le_refl _)
            clear hown2 hgrow hbel2
            go_wp2_with fail
            go_roundg (gk - (E - k))
            case measure => omega
            case rel =>
              refine ⟨E, f, _, by omega, by go_num, by omega, HG'.out, by simp; omega, ?_, hb1⟩
              rw [tokC_append, ← HKC.out]; simpa using hown'
        · have hkE' : Hid (¬ k < wordEnd s k) := by intro h; rw [lex_word_iff s k hlt, ← hRg] at h; exact hwb h
          by_cases hpt : pointAt s k = true
          · have hsa : signAt s k = [46] := by unfold signAt firstOf; rw [if_pos hpt]
            have HG' : Hid (lexGo s f (k + 1) (acc ++ [⟨115, B [46], k⟩]) = lexS s) := by
              have h := lexGo_sign (f := f) (acc := acc) hlt HB.out hkE'.out (by rw [hsa]; simp)
              rw [hsa] at h
              unfold Hid; rw [← HG.out, h]; rfl
            have HPt' : Hid (∀ w, Calls Tryz.prog 198 #[.string R] w fun e w' => e = .returned (.bool true) ∧ w' = w) := fun w => by
              have := HPt.out R w hR0; rwa [hRp.out, hpt] at this
            clear hRf hRp hRx hRg HPt hsa hpt HG
            go_wp2_with (first | (go_at_call 194; refine (HBl.out _ _).mono ?_; rintro e w' ⟨rfl, h9⟩; rw [h9]; clear h9) | (go_at_call 195; refine (HWB.out _ _).mono ?_; rintro e w' ⟨rfl, h9⟩; rw [h9]; clear h9) | (go_at_call 198; refine (HPt'.out _).mono ?_; rintro e w' ⟨rfl, h9⟩; rw [h9]; clear h9) | (at_builtin; refine wpList_append_own _ rfl _ _ 292 rfl w.heap.size 298 i0 (.agg #[.int .i64 0, .string ByteArray.empty, .int .i64 0]) 3 32 Tryz.underlyingToksC hi hz0 hz1 hz2 rfl (by decide) _ _ _ rfl (hown.alloc _) ⟨wr.heap.size, 0, none⟩ 1 1 [.int .i64 3, .string ⟨#[46]⟩, .int .i64 k] rfl rfl ?c1 ?c2 ?c3 ?c4 ?c5 ?_))
            case c1 => exact cells3 _ _ _ _ _
            case c2 => intro u hu; simp at hu; rcases hu with rfl | rfl | rfl <;> rfl
            case c3 => unfold maxLen; omega
            case c4 => omega
            case c5 => simp; omega
            intro v' w9 hown' hgrow _
            have hb1 := grow_below hbel hown hgrow (Nat.le_refl _)
            clear hown hgrow hbel
            go_wp2_with fail
            go_roundg (gk - 1)
            case measure => omega
            case rel =>
              refine ⟨k + 1, f, _, by omega, by go_num, by omega, HG'.out, by simp; omega, ?_, hb1⟩
              rw [tokC_append, List.length_append]; exact hown'
          · have hpf : pointAt s k = false := by simpa using hpt
            have HPt' : Hid (∀ w, Calls Tryz.prog 198 #[.string R] w fun e w' => e = .returned (.bool false) ∧ w' = w) := fun w => by
              have := HPt.out R w hR0; rwa [hRp.out, hpf] at this
            have hf0 : Hid (firstOf s k (signL.take 0) = []) := by rw [Hid, firstOf_nil, hpf]; rfl
            have hsw := hsg.below hbel hng
            clear hRf hRp hRg HPt hpt hpf
            have HHP : Hid (∀ x w, Calls Tryz.prog 199 #[.string R, .string (B x)] w fun e w' => e = .returned (.bool (hasAt s k x)) ∧ w' = w) := fun x w => by
              rw [← hRx.out x]; exact Tryz.strings_HasPrefix R (B x) w
            obtain ⟨SC, hSC⟩ : ∃ SC, SC = signCells := ⟨_, rfl⟩
            have HSC : Hid (signCells.toList.toArray = SC) := by rw [Hid, hSC]
            have hscs : SC.size = 23 := by rw [hSC]; rfl
            have hscg : ∀ m, m < 23 → SC[m]? = some (.string (B (signL.getD m []))) := fun m hm => by
              rw [hSC, signCells, List.getElem?_toArray, List.getElem?_map, signGet m hm, Option.map_some]
            clear hSC hRx
            go_wp2_with (first | (go_at_call 194; refine (HBl.out _ _).mono ?_; rintro e w' ⟨rfl, h9⟩; rw [h9]; clear h9) | (go_at_call 195; refine (HWB.out _ _).mono ?_; rintro e w' ⟨rfl, h9⟩; rw [h9]; clear h9) | (go_at_call 198; refine (HPt'.out _).mono ?_; rintro e w' ⟨rfl, h9⟩; rw [h9]; clear h9) | (refine wpList_load_mid rfl 351 (.global 1) rfl 1 0 rfl signCells.toList _ hsw Tryz.underlyingSigns rfl Tryz.sizeSigns ?_; rw [HSC.out]))
            obtain ⟨V3, hV3⟩ : ∃ V, V = u3 := ⟨u3, rfl⟩
            subst hV3
            go_loopg [3, 4, 52] 23 (fun g v pl i wx => wr = wx ∧ v = V3 ∧ pl = .int .i64 k ∧ ∃ m : Nat, m + g = 23 ∧ i = .int .i64 m ∧ firstOf s k (signL.take m) = [])
            case atStart => exact ⟨rfl, rfl, rfl, 0, rfl, rfl, hf0.out⟩
            case round =>
              obtain ⟨rfl, rfl, rfl, m, hm, rfl, hemp⟩ := hrel
              have HEMP := hide hemp
              clear hemp
              by_cases hm23 : m < 23
              · have hcell := hscg m hm23
                have hXl := sign_len m
                obtain ⟨X, hX⟩ : ∃ X, X = signL.getD m [] := ⟨_, rfl⟩
                rw [← hX] at hcell hXl
                have HX := hide hX
                clear hX hscg
                have hix := sign_index m _ SC hm23 hcell
                have HHX := hide (HHP.out X)
                clear HHP
                cases hh : hasAt s k X with
                | true =>
                  rw [hh] at HHX
                  have hfo : firstOf s k (signL.take (m + 1)) = X := by rw [firstOf_hit hm23 HEMP.out (by rw [← HX.out]; exact hh), HX.out]
                  have hX0 : X ≠ [] := by rw [HX.out]; exact sign_ne _ (List.mem_of_getElem? (signGet m hm23))
                  have hsa : signAt s k = X := by rw [firstOf_done (by rw [hfo]; exact hX0), hfo]
                  have HG' : Hid (lexGo s f (k + X.length) (acc ++ [⟨115, B X, k⟩]) = lexS s) := by
                    have h := lexGo_sign (f := f) (acc := acc) hlt HB.out hkE'.out (by rw [hsa]; exact hX0)
                    rw [hsa] at h
                    unfold Hid; rw [← HG.out, h]
                  have hfit : k + X.length ≤ s.size := by
                    have h := signAt_fits s k hlt
                    rwa [hsa, B_size] at h
                  have hXs := B_size X
                  have hXp : 0 < X.length := List.length_pos_iff.2 hX0
                  clear hh hfo hX0 hsa HG HEMP
                  go_wp2_with (first | (go_at_call 199; refine (HHX.out _).mono ?_; rintro e w' ⟨rfl, h9⟩; rw [h9]; clear h9) | (at_builtin; refine wpList_append_own _ rfl _ _ 292 rfl w.heap.size 298 i0 (.agg #[.int .i64 0, .string ByteArray.empty, .int .i64 0]) 3 32 Tryz.underlyingToksC hi hz0 hz1 hz2 rfl (by decide) _ _ _ rfl (hown.alloc _) _ 1 1 [.int .i64 3, .string (B X), .int .i64 k] rfl rfl ?c1 ?c2 ?c3 ?c4 ?c5 ?_))
                  case c1 => exact cells3 _ _ _ _ _
                  case c2 => intro u hu; simp at hu; rcases hu with rfl | rfl | rfl <;> rfl
                  case c3 => unfold maxLen; omega
                  case c4 => omega
                  case c5 => simp; omega
                  intro v' w9 hown' hgrow _
                  have hb1 := grow_below hbel hown hgrow (Nat.le_refl _)
                  clear hown hgrow hbel
                  go_wp2_with fail
                  go_roundg (s.size - (k + X.length))
                  case measure => omega
                  case rel =>
                    refine ⟨k + X.length, f, _, by omega, by go_num, by omega, HG'.out, by simp; omega, ?_, hb1⟩
                    rw [tokC_append, List.length_append]; exact hown'
                | false =>
                  rw [hh] at HHX
                  have HE' : Hid (firstOf s k (signL.take (m + 1)) = []) := firstOf_miss hm23 HEMP.out (by rw [← HX.out]; exact hh)
                  clear hh HG
                  go_wp2_with (first | (go_at_call 199; refine (HHX.out _).mono ?_; rintro e w' ⟨rfl, h9⟩; rw [h9]; clear h9))
                  go_roundg (23 - (m + 1))
                  case measure => omega
                  case rel => exact ⟨rfl, rfl, rfl, m + 1, by omega, by go_num, HE'.out⟩
              · have hm3 : m = 23 := by omega
                subst hm3
                have HR : Hid (lexS s = .error k) := by unfold Hid; rw [← HG.out]; exact lexGo_nosign hlt HB.out hkE'.out HEMP.out
                go_wp2_with (first | (go_at_call 154; refine (HNF.out _ _ _).mono ?_; rintro e w2 ⟨g, hg, rfl, hcell, hB2⟩))
                exact ⟨rfl, .err HR.out (below_chain hbel hB2) ⟨g, by omega, rfl, hcell⟩⟩
    · have hkk : k = s.size := by omega
      have HO : Hid (lexS s = .ok acc) := by unfold Hid; rw [← HG.out]; exact lexGo_end hlt
      have hws := hbel.size
      go_wp2_with (first | (at_builtin; refine wpList_append_own _ rfl _ _ 292 rfl w.heap.size 298 i0 (.agg #[.int .i64 0, .string ByteArray.empty, .int .i64 0]) 3 32 Tryz.underlyingToksC hi hz0 hz1 hz2 rfl (by decide) _ _ _ rfl (hown.alloc _) ⟨wr.heap.size, 0, none⟩ 1 1 [.int .i64 4, .string ⟨#[]⟩, .int .i64 s.size] rfl rfl ?c1 ?c2 ?c3 ?c4 ?c5 ?_))
      case c1 => exact cells3 _ _ _ _ _
      case c2 => intro u hu; simp at hu; rcases hu with rfl | rfl | rfl <;> rfl
      case c3 => unfold maxLen; omega
      case c4 => omega
      case c5 => simp; omega
      intro v' w9 hown' hgrow _
      have hb1 := grow_below hbel hown hgrow (Nat.le_refl _)
      clear hown hgrow hbel
      go_wp2_with fail
      try rw [Exit.noGoto_ret]
      go_ret
      refine .ok HO.out hb1 ?_
      rw [withEnd, tokC_append, List.length_append]
      exact hown'
theorem SignsIn.allocS {w : World} (h : SignsIn w) (hng : 1 < w.heap.size) (o : Obj) : SignsIn (w.alloc o) := h.below ((Below.refl w.heap.size w).alloc (Nat.le_refl _) o) hng
def keyOfRow : List Value → ByteArray × Nat
  | .string n :: .slice _ k _ :: _ => (n, k)
  | _ => (ByteArray.empty, 0)
def addRow (r : List Value) (t : List (ByteArray × Nat × List (List Value))) : List (ByteArray × Nat × List (List Value)) :=
  match t.findIdx? (fun e => decide (e.1 = (keyOfRow r).1 ∧ e.2.1 = (keyOfRow r).2)) with
  | some q => t.modify q fun e => (e.1, e.2.1, e.2.2 ++ [r])
  | none => t ++ [((keyOfRow r).1, (keyOfRow r).2, [r])]
def tabOf (rs : List (List Value)) : List (ByteArray × Nat × List (List Value)) := rs.foldl (fun t r => addRow r t) []
def TE.str (e : TE) : ByteArray × Nat × List (List Value) := (e.n, e.k, e.cs)
structure PTab (w : World) (mb n0 : Nat) (l : List TE) : Prop where
  map : w.heap[mb]? = some (.map (entsP 0 l).toArray l.length)
  own : ∀ e ∈ l, w.ownsRow n0 228 4 e.v e.cs.length e.cs.flatten
  apart : ∀ (i j : Nat) (a b : TE), l[i]? = some a → l[j]? = some b → i ≠ j → ∀ g, a.v.ownBlock = some g → b.v.ownBlock ≠ some g
  nm : n0 ≤ mb
theorem idxP_find (n : ByteArray) (k : Nat) : ∀ (l : List TE), (l.map TE.str).findIdx? (fun e => decide (e.1 = n ∧ e.2.1 = k)) = idxP n k l
  | [] => rfl
  | a :: l => by
    rw [List.map_cons, List.findIdx?_cons, idxP, idxP_find n k l]
    by_cases h : a.n = n ∧ a.k = k <;> simp [TE.str, h]
theorem row_flat : ∀ (rs : List (List Value)), (∀ r ∈ rs, r.length = 4) → ∀ (i j : Nat) (r : List Value), rs[i]? = some r → j < 4 → rs.flatten[i * 4 + j]? = r[j]?
  | [], _, i, j, r, h, _ => by simp at h
  | a :: rs, hl, 0, j, r, h, hj => by
    simp at h; subst h
    have := hl a List.mem_cons_self
    rw [List.flatten_cons, List.getElem?_append_left (by omega)]
    simp
  | a :: rs, hl, i + 1, j, r, h, hj => by
    have := hl a List.mem_cons_self
    rw [List.flatten_cons, List.getElem?_append_right (by omega), show (i + 1) * 4 + j - a.length = i * 4 + j by omega]
    exact row_flat rs (fun r hr => hl r (List.mem_cons_of_mem _ hr)) i j r (by simpa using h) hj
theorem ClRow.len {r : List Value} (h : ClRow r) : r.length = 4 := by
  obtain ⟨n, a, k, c, t, v, va, vn, vc, rfl⟩ := h; rfl
theorem own_not_map {w : World} {n0 m b : Nat} {v : Value} {xs : List Value} {es : Array MapEntry} {ck : Nat} (h : w.ownsRow n0 228 4 v m xs) (hm : w.heap[b]? = some (.map es ck)) : v.ownBlock ≠ some b := by
  intro e
  rcases h.2 with ⟨q, _⟩ | ⟨g, cap, cur, q, _, q4, _⟩
  · rw [q] at e; cases e
  · rw [q] at e; cases e
    rw [hm] at q4
    injection q4 with q4; cases q4
theorem PTab.keep {w w' : World} {mb n0 : Nat} {l : List TE} (h : PTab w mb n0 l) (hB : Below w.heap.size w w') : PTab w' mb n0 l :=
  ⟨(hB.block mb (Array.getElem?_eq_some_iff.1 h.map).1).trans h.map, fun e he => own_below (h.own e he) hB, h.apart, h.nm⟩
theorem PTab.added {W w2 : World} {mb n0 q : Nat} {l : List TE} {e : TE} {v' : Value} {r : List Value} (h : PTab W mb n0 l) (he : l[q]? = some e) (ho : w2.ownsRow n0 228 4 v' (e.cs.length + 1) (e.cs.flatten ++ r)) (hg : W.grownBy w2 e.v.ownBlock)
    (hn : ∀ b, v'.ownBlock = some b → e.v.ownBlock = some b ∨ W.heap.size ≤ b) :
    w2.heap[mb]? = some (.map (entsP 0 l).toArray l.length) ∧ PTab (setM w2 mb (l.set q { e with v := v', cs := e.cs ++ [r] })) mb n0 (l.set q { e with v := v', cs := e.cs ++ [r] }) := by
  have hml : mb < W.heap.size := (Array.getElem?_eq_some_iff.1 h.map).1
  have hem : e ∈ l := List.mem_of_getElem? he
  have hm2 : w2.heap[mb]? = some (.map (entsP 0 l).toArray l.length) := (hg.block mb hml (fun q => own_not_map (h.own e hem) h.map q.symm)).trans h.map
  have hvm : v'.ownBlock ≠ some mb := own_not_map ho hm2
  have hql : q < l.length := (List.getElem?_eq_some_iff.1 he).1
  have hget : ∀ (j : Nat) (a : TE), (l.set q { e with v := v', cs := e.cs ++ [r] })[j]? = some a → (j = q ∧ a = { e with v := v', cs := e.cs ++ [r] }) ∨ (j ≠ q ∧ l[j]? = some a) := fun j a ha => by
    rw [List.getElem?_set] at ha
    by_cases hj : q = j
    · subst hj
      rw [if_pos rfl, if_pos hql] at ha
      exact .inl ⟨rfl, (Option.some.inj ha).symm⟩
    · rw [if_neg hj] at ha
      exact .inr ⟨fun e => hj e.symm, ha⟩
  refine ⟨hm2, ?_, fun a ha => ?_, fun i j a b ha hb hij g hga hgb => ?_, h.nm⟩
  · have := setM_at hm2 (l.set q { e with v := v', cs := e.cs ++ [r] })
    exact this
  · obtain ⟨j, ha⟩ := List.mem_iff_getElem?.1 ha
    rcases hget j a ha with ⟨_, rfl⟩ | ⟨hj, ha⟩
    · have : w2.ownsRow n0 228 4 v' (e.cs ++ [r]).length (e.cs ++ [r]).flatten := by simpa using ho
      exact ownsRow_keep this fun b hb => setM_other _ _ _ (fun q => hvm (by rw [hb, q]))
    · have ham := List.mem_of_getElem? ha
      refine ownsRow_keep (h.own a ham) fun b hb => ?_
      rw [setM_other _ _ _ (fun q => own_not_map (h.own a ham) h.map (by rw [hb, q]))]
      exact hg.block b ((h.own a ham).lt b hb).2 (fun q => h.apart j _ a e ha he hj b hb q.symm)
  · rcases hget i a ha with ⟨hi, rfl⟩ | ⟨hi, ha⟩
    · rcases hget j b hb with ⟨hj, rfl⟩ | ⟨hj, hb⟩
      · omega
      · rcases hn g hga with q1 | q1
        · exact h.apart j _ b e hb he hj g hgb q1
        · have := ((h.own b (List.mem_of_getElem? hb)).lt g hgb).2
          omega
    · rcases hget j b hb with ⟨hj, rfl⟩ | ⟨hj, hb⟩
      · rcases hn g hgb with q1 | q1
        · exact h.apart i _ a e ha he hi g hga q1
        · have := ((h.own a (List.mem_of_getElem? ha)).lt g hga).2
          omega
      · exact h.apart i j a b ha hb hij g hga hgb
theorem PTab.more {W : World} {mb n0 : Nat} {l : List TE} (h : PTab W mb n0 l) (n : ByteArray) (k : Nat) : PTab (setM W mb (l ++ [⟨n, k, .slice none 0 0, []⟩])) mb n0 (l ++ [⟨n, k, .slice none 0 0, []⟩]) := by
  have hget : ∀ (j : Nat) (a : TE), (l ++ [⟨n, k, .slice none 0 0, []⟩])[j]? = some a → a = ⟨n, k, .slice none 0 0, []⟩ ∨ l[j]? = some a := fun j a ha => by
    by_cases hj : j < l.length
    · rw [List.getElem?_append_left hj] at ha; exact .inr ha
    · rw [List.getElem?_append_right (by omega)] at ha
      have := List.mem_of_getElem? ha
      exact .inl (List.mem_singleton.1 this)
  refine ⟨setM_at h.map _, fun a ha => ?_, fun i j a b ha hb hij g hga hgb => ?_, h.nm⟩
  · rcases List.mem_append.1 ha with ha | ha
    · exact ownsRow_keep (h.own a ha) fun b hb => setM_other _ _ _ (fun q => own_not_map (h.own a ha) h.map (by rw [hb, q]))
    · rw [List.mem_singleton.1 ha]
      exact World.ownsRow_nil _ _ _ _
  · rcases hget i a ha with rfl | ha
    · cases hga
    · rcases hget j b hb with rfl | hb
      · cases hgb
      · exact h.apart i j a b ha hb hij g hga hgb
theorem below_setM {w w' : World} {mb n0 : Nat} (h : Below n0 w w') (hm : n0 ≤ mb) (l : List TE) : Below n0 w (setM w' mb l) :=
  ⟨h.os, h.tape, h.output, by have := h.size; simpa [setM] using this, fun b hb => by rw [setM_other _ _ _ (by omega)]; exact h.block b hb⟩
theorem tabP_old {l : List TE} {r : List Value} {q : Nat} {e : TE} (hq : idxP (keyOfRow r).1 (keyOfRow r).2 l = some q) (he : l[q]? = some e) (v' : Value) : (l.set q { e with v := v', cs := e.cs ++ [r] }).map TE.str = addRow r (l.map TE.str) := by
  unfold addRow
  rw [idxP_find, hq]
  simp only
  apply List.ext_getElem?
  intro i
  rw [List.getElem?_map, List.getElem?_set, List.getElem?_modify, List.getElem?_map]
  have hql : q < l.length := (List.getElem?_eq_some_iff.1 he).1
  by_cases hi : q = i
  · subst hi
    have hle : l[q] = e := (List.getElem?_eq_some_iff.1 he).2
    simp [hle, hql, TE.str]
  · simp [hi]
theorem tabP_new {l : List TE} {r : List Value} (hq : idxP (keyOfRow r).1 (keyOfRow r).2 l = none) (v' : Value) : ((l ++ [(⟨(keyOfRow r).1, (keyOfRow r).2, .slice none 0 0, []⟩ : TE)]).set l.length (⟨(keyOfRow r).1, (keyOfRow r).2, v', [r]⟩ : TE)).map TE.str = addRow r (l.map TE.str) := by
  unfold addRow
  rw [idxP_find, hq]
  simp [TE.str]
theorem newProgram_c {w : World} {n0 m c : Nat} {a : Option Addr} {rs : List (List Value)} (h : ClRows w n0 (.slice a m c) m rs) :
    Calls Tryz.prog 96 #[.slice a m c] w fun e w' => ∃ mb l, e = .returned (.map (some mb)) ∧ (PTab w' mb w.heap.size l ∧ l.map TE.str = tabOf rs) ∧ Below w.heap.size w w' := by
  obtain ⟨hown, hrl, h40, hcl⟩ := h
  obtain ⟨i0, hi, hz0, hz1, hz2⟩ := info_parts Tryz.infoClause
  have hmm : ∀ w : World, (Instr.makeMap 159 none).run Tryz.prog w = .ok (.map (some w.heap.size)) (w.alloc (.map #[] 0)) := fun w => rfl
  have HOWN := hide hown
  have HCL := hide hcl
  clear hown hcl
  go_enter Tryz.func96, Tryz.ntmps96
  go_wp2_with fail
  go_loopg [10] (m + 1) (fun g iv wr => ∃ (i : Nat) (l : List TE), iv = .int .i64 (i : Nat) ∧ i ≤ m ∧ m - i < g ∧ PTab wr w.heap.size w.heap.size l ∧ l.map TE.str = tabOf (rs.take i) ∧ Below w.heap.size w wr ∧ (∀ e ∈ l, e.cs.length ≤ i))
  case atStart =>
    refine ⟨0, [], rfl, Nat.zero_le _, by omega, ⟨?_, by simp, by simp, Nat.le_refl _⟩, by simp [tabOf], (Below.refl _ _).alloc (Nat.le_refl _) _, by simp⟩
    exact heap_alloc_new w _
  case round =>
    obtain ⟨i, l, rfl, him, hgk, hP, hl, hB, hcl⟩ := hrel
    have HP := hide hP
    have HL := hide hl
    have HB := hide hB
    have HCC := hide hcl
    clear hP hl hB hcl
    by_cases hlt : i < m
    · obtain ⟨r, hr⟩ : ∃ r, rs[i]? = some r := ⟨rs[i], List.getElem?_eq_getElem (by omega)⟩
      obtain ⟨n, ra, k, rc, t, v, va, vn, vc, hrow⟩ := HCL.out r (List.mem_of_getElem? hr)
      have HROW := hide hrow
      have hlen : ∀ r ∈ rs, r.length = 4 := fun r hr => (HCL.out r hr).len
      have hfl := fun j hj => row_flat rs hlen i j r hr hj
      have hownW := own_below HOWN.out HB.out
      rcases hownW.2 with ⟨_, h0⟩ | ⟨g, cap, cur, hav, _, hgg, hcap, hmx, hsz, htk⟩
      · omega
      injection hav with hav _ hav2
      subst hav hav2
      have k0 : wr.cell? ⟨g, i * 4, none⟩ = some (.string n) := rowCell hgg htk (by have := hfl 0 (by omega); rw [Nat.add_zero] at this; rw [this, hrow]; rfl)
      have k1 : wr.cell? ⟨g, i * 4 + 1, none⟩ = some (.slice ra k rc) := rowCell hgg htk (by rw [hfl 1 (by omega), hrow]; rfl)
      have k2 : wr.cell? ⟨g, i * 4 + 2, none⟩ = some (.iface t v) := rowCell hgg htk (by rw [hfl 2 (by omega), hrow]; rfl)
      have k3 : wr.cell? ⟨g, i * 4 + 3, none⟩ = some (.slice va vn vc) := rowCell hgg htk (by rw [hfl 3 (by omega), hrow]; rfl)
      have hgl : g < wr.heap.size := (Array.getElem?_eq_some_iff.1 hgg).1
      have HHR := hide hr
      have hBz := HB.out.size
      clear hrow hlen hfl hownW hgg hsz htk hr
      go_upto_region 6 with fail
      have HBW : Hid (Below wr.heap.size wr ((wr.alloc (.cells #[.string n, .slice ra k rc, .iface t v, .slice va vn vc] 228)).alloc (.cells #[.string n, .int .i64 k] 220))) := ((Below.refl _ _).alloc (Nat.le_refl _) _).alloc (by simp) _
      have hb5 : ((wr.alloc (.cells #[.string n, .slice ra k rc, .iface t v, .slice va vn vc] 228)).alloc (.cells #[.string n, .int .i64 k] 220)).heap[wr.heap.size]? = some (.cells #[.string n, .slice ra k rc, .iface t v, .slice va vn vc] 228 (0, 0)) := by
        rw [Below.heap_alloc _ _ _ (by simp)]
        exact heap_alloc_new wr _
      have hb6 : ((wr.alloc (.cells #[.string n, .slice ra k rc, .iface t v, .slice va vn vc] 228)).alloc (.cells #[.string n, .int .i64 k] 220)).heap[wr.heap.size + 1]? = some (.cells #[.string n, .int .i64 k] 220 (0, 0)) := by
        have := heap_alloc_new (wr.alloc (.cells #[.string n, .slice ra k rc, .iface t v, .slice va vn vc] 228)) (.cells #[.string n, .int .i64 k] 220)
        rwa [World.size_alloc] at this
      obtain ⟨W, hW⟩ : ∃ W, W = ((wr.alloc (.cells #[.string n, .slice ra k rc, .iface t v, .slice va vn vc] 228)).alloc (.cells #[.string n, .int .i64 k] 220)) := ⟨_, rfl⟩
      rw [← hW] at HBW hb5 hb6 ⊢
      have HSW : Hid (W.heap.size = wr.heap.size + 2) := by unfold Hid; rw [hW]; simp
      have c50 : W.cell? ⟨wr.heap.size, 0, none⟩ = some (.string n) := by rw [cell_of_block hb5]; rfl
      have c51 : W.cell? ⟨wr.heap.size, 1, none⟩ = some (.slice ra k rc) := by rw [cell_of_block hb5]; rfl
      have c52 : W.cell? ⟨wr.heap.size, 2, none⟩ = some (.iface t v) := by rw [cell_of_block hb5]; rfl
      have c53 : W.cell? ⟨wr.heap.size, 3, none⟩ = some (.slice va vn vc) := by rw [cell_of_block hb5]; rfl
      have c60 : W.cell? ⟨wr.heap.size + 1, 0, none⟩ = some (.string n) := by rw [cell_of_block hb6]; rfl
      have c61 : W.cell? ⟨wr.heap.size + 1, 1, none⟩ = some (.int .i64 k) := by rw [cell_of_block hb6]; rfl
      have HWB : Hid (Below w.heap.size w W) := below_chain HB.out HBW.out
      have HPO : Hid (∀ o, PTab (W.alloc o) w.heap.size w.heap.size l) := fun o => (HP.out.keep HBW.out).keep ((Below.refl _ _).alloc (Nat.le_refl _) o)
      have hkey : keyOfRow r = (n, k) := by rw [HROW.out]; rfl
      have HTK : Hid (tabOf (rs.take (i + 1)) = addRow r (tabOf (rs.take i))) := by
        unfold Hid tabOf
        rw [List.take_add_one, HHR.out]
        simp
      clear hW hb5 hb6 k0 k1 k2 k3 hgl
      cases hq : idxP n k l with
      | some q =>
        obtain ⟨e, he, hen, hek⟩ := idxP_some hq
        have hme : ∀ o, (Instr.mapEntry 159 (.map (some w.heap.size)) (.agg #[.string n, .int .i64 k])).run Tryz.prog (W.alloc o) = .ok (.tuple #[e.v, .int .i64 q]) (W.alloc o) := fun o => entry_old (HPO.out o).map hq he
        have hown := fun o => (HPO.out o).own e (List.mem_of_getElem? he)
        obtain ⟨ao, cp, hvf⟩ := row_form (hown (.cells #[] 0))
        have hcsl := HCC.out e (List.mem_of_getElem? he)
        have HE := hide he
        have HQ := hide hq
        rw [hvf] at hme
        clear he hq
        go_wp2_with (first | (at_builtin; refine wpList_append_own2 rfl _ _ 189 rfl w.heap.size 228 i0 (.agg clZero) 4 80 Tryz.underlyingClauses hi hz0 hz1 hz2 rfl (by decide) e.v _ _ hvf.symm (hown _) (⟨W.heap.size, 0, none⟩ : Addr) 1 1 [.string n, .slice ra k rc, .iface t v, .slice va vn vc] rfl rfl ?c1 ?c2 ?c3 ?c4 ?c5 ?_))
        case c2 => exact ⟨rfl, rfl, rfl, rfl⟩
        case c3 => unfold maxLen; omega
        case c4 => omega
        case c5 => have := HWB.out.size; simp; omega
        intro v' w2 ho hgr hnw
        obtain ⟨hm2, hP2⟩ := (HPO.out _).added HE.out (r := r) (by rw [HROW.out]; exact ho) (by rw [hvf]; exact hgr) (by rw [hvf]; simpa using hnw)
        have hes : (Instr.entryStore 159 (.map (some w.heap.size)) (.int .i64 q) v').run Tryz.prog w2 = .ok () (setM w2 w.heap.size (l.set q { e with v := v', cs := e.cs ++ [r] })) := store_entry hm2 HE.out v' _
        have HP2 := hide hP2
        have HB2 : Hid (Below w.heap.size w (setM w2 w.heap.size (l.set q { e with v := v', cs := e.cs ++ [r] }))) := by
          refine below_setM ?_ (Nat.le_refl _) _
          have hoe := (HP.out.keep HBW.out).own e (List.mem_of_getElem? HE.out)
          rw [hvf] at hoe
          exact grow_below HWB.out hoe hgr (Nat.le_refl _)
        obtain ⟨ao', cp', hvf'⟩ := row_form ho
        clear ho hgr hnw hP2 hm2
        rw [hvf'] at hes HP2 HB2
        rw [hvf']
        obtain ⟨l2, hl2⟩ : ∃ l2, l2 = l.set q { e with v := .slice ao' (e.cs.length + 1) cp', cs := e.cs ++ [r] } := ⟨_, rfl⟩
        rw [← hl2] at hes HP2 HB2
        have HL2 := hide hl2
        clear hl2
        go_wp2_with fail
        go_roundg (gk - 1)
        case measure => omega
        case rel =>
          refine ⟨i + 1, _, by go_num, by omega, by omega, HP2.out, ?_, HB2.out, fun x hx => ?_⟩
          · rw [HTK.out, ← HL.out, HL2.out]
            exact tabP_old (by rw [hkey]; exact HQ.out) HE.out _
          · rw [HL2.out] at hx
            obtain ⟨j, hj⟩ := List.mem_iff_getElem?.1 hx
            rw [List.getElem?_set] at hj
            split at hj
            · split at hj
              · have := Option.some.inj hj
                subst this
                simp; omega
              · cases hj
            · have := HCC.out x (List.mem_of_getElem? hj)
              omega
      | none =>
        obtain ⟨ao, hao⟩ : ∃ ao : Option Addr, ao = none := ⟨_, rfl⟩
        obtain ⟨z, hzz⟩ : ∃ z : Nat, z = 0 := ⟨_, rfl⟩
        obtain ⟨e, hee⟩ : ∃ e : TE, e = ⟨n, k, .slice none 0 0, []⟩ := ⟨_, rfl⟩
        obtain ⟨l1, hl1⟩ : ∃ l1, l1 = l ++ [e] := ⟨_, rfl⟩
        have hev : e.v = .slice ao z z := by rw [hee, hao, hzz]
        have hme : ∀ o, (Instr.mapEntry 159 (.map (some w.heap.size)) (.agg #[.string n, .int .i64 k])).run Tryz.prog (W.alloc o) = .ok (.tuple #[.slice ao z z, .int .i64 l.length]) (setM (W.alloc o) w.heap.size l1) := fun o => by
          rw [hl1, hee, hao, hzz]
          exact entry_new (HPO.out o).map hq
        have HPM : Hid (∀ o, PTab (setM (W.alloc o) w.heap.size l1) w.heap.size w.heap.size l1) := fun o => by
          rw [hl1, hee]
          exact (HPO.out o).more n k
        have HE : Hid (l1[l.length]? = some e) := by unfold Hid; rw [hl1]; simp
        have HMB : Hid (∀ o, Below w.heap.size w (setM (W.alloc o) w.heap.size l1)) := fun o => below_setM (HWB.out.alloc HWB.out.size o) (Nat.le_refl _) _
        have hcell : ∀ (o : Obj) (j : Nat), (setM (W.alloc o) w.heap.size l1).cell? ⟨W.heap.size, j, none⟩ = (W.alloc o).cell? ⟨W.heap.size, j, none⟩ := fun o j => by
          unfold World.cell?
          rw [setM_other _ _ _ (by have := HWB.out.size; have := HSW.out; have := HB.out.size; simp only; omega)]
        have HSZ : Hid (∀ o, (setM (W.alloc o) w.heap.size l1).heap.size = W.heap.size + 1) := fun o => by simp [setM]
        have hown : ∀ o, (setM (W.alloc o) w.heap.size l1).ownsRow w.heap.size 228 4 (.slice ao z z) z [] := fun o => by rw [hao, hzz]; exact World.ownsRow_nil _ _ _ _
        have hz1000 : z ≤ 1000 := by omega
        have HZ : Hid (z = 0) := hzz
        have HEE := hide hee
        have HL1 := hide hl1
        have HQ := hide hq
        clear hq hao hzz hee hl1
        go_wp2_with (first | (at_builtin; refine wpList_append_own2 rfl _ _ 189 rfl w.heap.size 228 i0 (.agg clZero) 4 80 Tryz.underlyingClauses hi hz0 hz1 hz2 rfl (by decide) (.slice ao z z) z [] rfl (hown _) (⟨W.heap.size, 0, none⟩ : Addr) 1 1 [.string n, .slice ra k rc, .iface t v, .slice va vn vc] rfl rfl ?d1 ?d2 ?d3 ?d4 ?d5 ?_))
        case d2 => exact ⟨rfl, rfl, rfl, rfl⟩
        case d3 => unfold maxLen; omega
        case d4 => omega
        case d5 => rw [HSZ.out]; have := HWB.out.size; omega
        intro v' w2 ho hgr hnw
        have ho' : w2.ownsRow w.heap.size 228 4 v' (e.cs.length + 1) (e.cs.flatten ++ r) := by
          rw [HEE.out, HROW.out]
          rw [HZ.out] at ho
          exact ho
        obtain ⟨hm2, hP2⟩ := (HPM.out _).added HE.out (r := r) ho' (by rw [hev]; exact hgr) (by rw [hev]; exact hnw)
        have hes : (Instr.entryStore 159 (.map (some w.heap.size)) (.int .i64 l.length) v').run Tryz.prog w2 = .ok () (setM w2 w.heap.size (l1.set l.length { e with v := v', cs := e.cs ++ [r] })) := store_entry hm2 HE.out v' _
        have HP2 := hide hP2
        have HB2 : Hid (Below w.heap.size w (setM w2 w.heap.size (l1.set l.length { e with v := v', cs := e.cs ++ [r] }))) := by
          refine below_setM ?_ (Nat.le_refl _) _
          exact (HMB.out _).grown hgr (by rw [HSZ.out]; have := HWB.out.size; omega) (fun k e => ((hown (.cells #[] 0)).lt k e).1)
        obtain ⟨ao', cp', hvf'⟩ := row_form ho
        clear ho hgr hnw hP2 hm2 ho'
        rw [hvf'] at hes HP2 HB2
        rw [hvf']
        obtain ⟨l2, hl2⟩ : ∃ l2, l2 = l1.set l.length { e with v := .slice ao' (z + 1) cp', cs := e.cs ++ [r] } := ⟨_, rfl⟩
        rw [← hl2] at hes HP2 HB2
        have HL2 := hide hl2
        clear hl2
        go_wp2_with fail
        go_roundg (gk - 1)
        case measure => omega
        case rel =>
          refine ⟨i + 1, _, by go_num, by omega, by omega, HP2.out, ?_, HB2.out, fun x hx => ?_⟩
          · rw [HTK.out, ← HL.out, HL2.out, HL1.out, HEE.out]
            have := tabP_new (r := r) (l := l) (by rw [hkey]; exact HQ.out) (.slice ao' (z + 1) cp')
            rw [hkey] at this
            exact this
          · rw [HL2.out, HL1.out] at hx
            obtain ⟨j, hj⟩ := List.mem_iff_getElem?.1 hx
            rw [List.getElem?_set] at hj
            split at hj
            · split at hj
              · have := Option.some.inj hj
                subst this
                rw [HEE.out]
                simp
              · cases hj
            · rcases List.mem_append.1 (List.mem_of_getElem? hj) with hx | hx
              · have := HCC.out x hx
                omega
              · rw [List.mem_singleton.1 hx, HEE.out]
                simp
    · have hm : i = m := by omega
      subst hm
      go_wp2_with fail
      go_ret
      refine ⟨w.heap.size, l, rfl, ⟨HP.out, ?_⟩, HB.out⟩
      rw [HL.out, List.take_of_length_le (by omega)]
end Go.Proofs.YtodpkdajbnceoaaGreatDoor
