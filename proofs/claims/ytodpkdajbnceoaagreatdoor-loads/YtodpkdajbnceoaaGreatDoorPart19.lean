import Derived.Test.YtodpkdajbnceoaaGreatDoorPart18
set_option linter.unusedVariables false
set_option linter.unusedSimpArgs false
namespace Go.Proofs.YtodpkdajbnceoaaGreatDoor
open Go.RowKit

/-! Products, terms: the whole grammar. -/

set_option maxRecDepth 100000 in
set_option maxHeartbeats 1000000 in
theorem product_c {toks : List Tok} {d : Int} (hg : GoodToks toks) (ht : TTs toks) {prim : St → R Ex} (hpo : PartOk toks prim) (HP : RReads 226 toks d prim) : RReads 181 toks d (productOf toks prim) := by
  intro w bp lv vv st vbs h
  have hmf : ∀ (fn : Fn) (first cap : Array Value) (w : World), (Instr.makeFunc fn first cap).run Tryz.prog w = .ok (.func fn first cap) w := fun _ _ _ _ => rfl
  have HO : Hid (Calls Tryz.prog 180 #[ptrV bp, .int .i64 2, .func (.func 226) #[ptrV bp] #[]] w fun e w' => RPost toks bp lv vv d vbs w (productOf toks prim st) e w') := ops_c hg ht _ prim isMul 2 (fun i => (ht i).mul) hpo (.inr rfl) prim_enter HP w bp lv vv st vbs h
  unfold ptrV at *
  cases hr : productOf toks prim st with
  | error p =>
    obtain ⟨er, a⟩ := p
    rw [hr] at HO
    have HO' : Hid (Calls Tryz.prog 180 #[.pointer (some ⟨bp, 0, none⟩), .int .i64 2, .func (.func 226) #[.pointer (some ⟨bp, 0, none⟩)] #[]] w fun e w' => RFault er a bp lv vv d w e w') := HO.out
    clear HO hr
    go_enter Tryz.func181, Tryz.ntmps181
    go_wp2_with (first | (go_at_call 180; refine HO'.out.mono ?_; rintro e w9 hF; have hF' := hF; obtain ⟨g, vv', i', h1, rfl, h3⟩ := hF))
    exact ⟨rfl, hF'⟩
  | ok p =>
    obtain ⟨x, st2⟩ := p
    rw [hr] at HO
    have HO' : Hid (Calls Tryz.prog 180 #[.pointer (some ⟨bp, 0, none⟩), .int .i64 2, .func (.func 226) #[.pointer (some ⟨bp, 0, none⟩)] #[]] w fun e w' => ∃ (u vv' : Value) (vbs' : List Nat), e = .returned u ∧ TRep w' (fun b => w.heap.size ≤ b) vbs' x u ∧ RIn w' bp toks lv vv' st2.1 d st2.2 vbs' ∧ vbs <+: vbs' ∧ Fr bp vv vv' w w') := HO.out
    clear HO hr
    go_enter Tryz.func181, Tryz.ntmps181
    go_wp2_with (first | (go_at_call 180; refine HO'.out.mono ?_; rintro e w9 ⟨u9, vv9, vbs9, rfl, r1, r2, r3, r4⟩))
    go_ret
    exact ⟨u9, vv9, vbs9, rfl, r1, r2, r3, r4⟩

set_option maxRecDepth 100000 in
set_option maxHeartbeats 1000000 in
theorem term_c {toks : List Tok} {d : Int} (hg : GoodToks toks) (ht : TTs toks) (hn : ∀ i, (tk toks i).t.size ≤ 2000) {prim : St → R Ex} (hpo : PartOk toks prim) (HP0 : RReads 226 toks d prim) : RReads 139 toks d (exprOf toks prim) := by
  intro w bp lv vv st vbs h
  have HP := product_c hg ht hpo HP0
  have hmf : ∀ (fn : Fn) (first cap : Array Value) (w : World), (Instr.makeFunc fn first cap).run Tryz.prog w = .ok (.func fn first cap) w := fun _ _ _ _ => rfl
  have HO : Hid (Calls Tryz.prog 180 #[ptrV bp, .int .i64 1, .func (.func 181) #[ptrV bp] #[]] w fun e w' => RPost toks bp lv vv d vbs w (exprOf toks prim st) e w') := ops_c hg ht _ (productOf toks prim) isAdd 1 (fun i => (ht i).add) (product_got hpo hn) (.inl rfl) product_enter HP w bp lv vv st vbs h
  unfold ptrV at *
  clear HP HP0
  cases hr : exprOf toks prim st with
  | error p =>
    obtain ⟨er, a⟩ := p
    rw [hr] at HO
    have HO' : Hid (Calls Tryz.prog 180 #[.pointer (some ⟨bp, 0, none⟩), .int .i64 1, .func (.func 181) #[.pointer (some ⟨bp, 0, none⟩)] #[]] w fun e w' => RFault er a bp lv vv d w e w') := HO.out
    clear HO hr
    go_enter Tryz.func139, Tryz.ntmps139
    go_wp2_with (first | (go_at_call 180; refine HO'.out.mono ?_; rintro e w9 hF; have hF' := hF; obtain ⟨g, vv', i', h1, rfl, h3⟩ := hF))
    exact ⟨rfl, hF'⟩
  | ok p =>
    obtain ⟨x, st2⟩ := p
    rw [hr] at HO
    have HO' : Hid (Calls Tryz.prog 180 #[.pointer (some ⟨bp, 0, none⟩), .int .i64 1, .func (.func 181) #[.pointer (some ⟨bp, 0, none⟩)] #[]] w fun e w' => ∃ (u vv' : Value) (vbs' : List Nat), e = .returned u ∧ TRep w' (fun b => w.heap.size ≤ b) vbs' x u ∧ RIn w' bp toks lv vv' st2.1 d st2.2 vbs' ∧ vbs <+: vbs' ∧ Fr bp vv vv' w w') := HO.out
    clear HO hr
    go_enter Tryz.func139, Tryz.ntmps139
    go_wp2_with (first | (go_at_call 180; refine HO'.out.mono ?_; rintro e w9 ⟨u9, vv9, vbs9, rfl, r1, r2, r3, r4⟩))
    go_ret
    exact ⟨u9, vv9, vbs9, rfl, r1, r2, r3, r4⟩

theorem prim_at_c {toks : List Tok} (hg : GoodToks toks) (ht : TTs toks) (hn : ∀ i, (tk toks i).t.size ≤ 2000) : ∀ k : Nat, k ≤ 8 → RReads 226 toks (8 - (k : Int)) (primS toks k)
  | 0, _ => prim_zero_c hg
  | k + 1, hk => by
    have ih := prim_at_c hg ht hn k (by omega)
    have hpo := prim_got hg hn k
    have e1 : (8 : Int) - ((k + 1 : Nat) : Int) + 1 = 8 - (k : Int) := by omega
    have h := prim_succ_c hg ht (exprOf toks (primS toks k)) (expr_got hpo hn) (d := 8 - ((k + 1 : Nat) : Int)) (by omega) (by omega) (by rw [e1]; exact term_c hg ht hn hpo ih)
    exact h

theorem expr_at_c {toks : List Tok} (hg : GoodToks toks) (ht : TTs toks) (hn : ∀ i, (tk toks i).t.size ≤ 2000) : RReads 139 toks 0 (exprS toks 8) :=
  term_c hg ht hn (prim_got hg hn 8) (prim_at_c hg ht hn 8 (Nat.le_refl _))

end Go.Proofs.YtodpkdajbnceoaaGreatDoor

namespace Go.Proofs.YtodpkdajbnceoaaGreatDoor
open Go.RowKit

/-! A whole text: the panics are caught. -/

theorem ta_hit {P : Program} {t xT : TypeId} {ds : TypeDesc} (hu : P.underlying t = some ds) (hn : ∀ m, ds ≠ .interface m) (v : Value) (w : World) : (Instr.typeAssert (.iface t v) xT t true).run P w = .ok (.tuple #[v, .bool true]) w := by
  unfold Instr.typeAssert
  rw [Sem.run_bind, run_underlying hu w, Result.andThen_ok]
  cases ds <;> first | (exact absurd rfl (hn _)) | simp

theorem Tryz.isFault (v : Value) (w : World) : (Instr.typeAssert (.iface 290 v) 20 290 true).run Tryz.prog w = .ok (.tuple #[v, .bool true]) w :=
  ta_hit Tryz.underlying290 (fun _ h => by cases h) v w

set_option maxRecDepth 100000 in
set_option maxHeartbeats 1000000 in
theorem catch_fault (p g : Nat) (w : World) (hc : w.heap[p]? = some (.cells #[.nilIface] 90 (0, 0))) :
    CallsD Tryz.prog 179 #[.pointer (some ⟨p, 0, none⟩)] (.panicking [{ v := faultV g, recovered := false }]) w fun e u' w' =>
      e = .returned (.tuple #[]) ∧ u' = .panicking [{ v := faultV g, recovered := true }] ∧ w' = (w.setCell ⟨p, 0, none⟩ (.iface 161 (ptrV g))).alloc (.cells #[ptrV g] 290) := by
  have hcc : w.cell? ⟨p, 0, none⟩ = some .nilIface := by rw [cell_of_block hc]; rfl
  have hfz := fz_of hc 0
  have hlt : p < w.heap.size := (Array.getElem?_eq_some_iff.1 hc).1
  have hcc' : ∀ o, (w.alloc o).cell? ⟨p, 0, none⟩ = some .nilIface := fun o => cell_alloc1 hcc o
  have hta := Tryz.isFault
  unfold faultV ptrV
  refine callsD_of_wpS Tryz.func179 rfl fun c₀ cs hu => ?_
  apply wpS_seq
  apply wpS_region
  simp [wpOpsS, go_sem, recoverD, hu, Tryz.ntmps179, Exit.thenS]
  refine wpS_of_wp ?_
  go_wp2
  exact ⟨rfl, _, rfl, _, results_none rfl _ _ _, rfl, rfl, rfl⟩

set_option maxRecDepth 100000 in
set_option maxHeartbeats 1000000 in
theorem catch_none (p : Nat) (w : World) :
    CallsD Tryz.prog 179 #[.pointer (some ⟨p, 0, none⟩)] .returning w fun e u' w' => e = .returned (.tuple #[]) ∧ u' = .returning ∧ w' = w := by
  refine callsD_of_wpS Tryz.func179 rfl fun c₀ cs hu => ?_
  apply wpS_seq
  apply wpS_region
  simp [wpOpsS, go_sem, recoverD, hu, Tryz.ntmps179, Exit.thenS]
  refine wpS_of_wp ?_
  go_wp2
  refine ⟨rfl, .returning, ?_, _, results_none rfl _ _ _, rfl, rfl, rfl⟩
  rw [← hu]

end Go.Proofs.YtodpkdajbnceoaaGreatDoor

namespace Go.Proofs.YtodpkdajbnceoaaGreatDoor
open Go.RowKit

/-! A whole text is read. -/

theorem door_fault {fn : Func} {tmps : Array Value} {R : Ending → World → Prop} {w : World} {p g : Nat} (hc : w.heap[p]? = some (.cells #[.nilIface] 90 (0, 0)))
    (h : Leaves Tryz.prog fn tmps R [] .returning ((w.setCell ⟨p, 0, none⟩ (.iface 161 (ptrV g))).alloc (.cells #[ptrV g] 290))) :
    Leaves Tryz.prog fn tmps R [{ target := .fn (.func 179) #[.pointer (some ⟨p, 0, none⟩)], args := #[] }] (.panicking [{ v := faultV g, recovered := false }]) w := by
  refine leaves_cons (f := 179) (args := #[.pointer (some ⟨p, 0, none⟩)]) (by simp) (by simp [go_sem]) ?_
  refine (catch_fault p g w hc).mono ?_
  rintro e u' w'' ⟨rfl, rfl, rfl⟩
  exact h

theorem door_ret {fn : Func} {tmps : Array Value} {R : Ending → World → Prop} {w : World} {p : Nat}
    (h : Leaves Tryz.prog fn tmps R [] .returning w) :
    Leaves Tryz.prog fn tmps R [{ target := .fn (.func 179) #[.pointer (some ⟨p, 0, none⟩)], args := #[] }] .returning w := by
  refine leaves_cons (f := 179) (args := #[.pointer (some ⟨p, 0, none⟩)]) (by simp) (by simp [go_sem]) ?_
  refine (catch_none p w).mono ?_
  rintro e u' w'' ⟨rfl, rfl, rfl⟩
  exact h

/-- the variables lie in blocks of their own -/
def VarBlks (w : World) (vbs : List Nat) : Prop := ∀ b, b ∈ vbs → ∃ n k, w.heap[b]? = some (.cells #[.string n, .int .i64 k, .nilIface, .int .i64 0] 269 (0, 0))

/-- what a text read as a term answers -/
def ReadC (s : ByteArray) (w : World) (e : Ending) (w' : World) : Prop :=
  Below w.heap.size w w' ∧
  match termS s with
  | .error (er, a) => ∃ g, e = .returned (.tuple #[.nilIface, .iface 161 (ptrV g)]) ∧ w'.heap[g]? = some (atV er a)
  | .ok (x, vars) => ∃ (u : Value) (vbs : List Nat), e = .returned (.tuple #[u, .nilIface]) ∧ TRep w' (fun _ => True) vbs x u ∧ vbs.length = vars.length ∧ vbs.Nodup ∧ vars.length ≤ 12 ∧ VarBlks w' vbs

theorem ReadC.err {s : ByteArray} {w w4 : World} {er : Int} {a : Nat} {g : Nat} {fn : Func} (hr : termS s = .error (er, a)) (hB : Below w.heap.size w w4) (hg : w4.heap[g]? = some (atV er a)) (hc : w4.heap[w.heap.size]? = some (.cells #[.nilIface] 90 (0, 0))) (hgn : w.heap.size < g)
    {tmps : Array Value} (hfn : fn.results = #[.tmp 4, .cell 5 90]) (h4 : tmps.getD 4 undef = .nilIface) (h5 : tmps.getD 5 undef = .pointer (some ⟨w.heap.size, 0, none⟩)) :
    Leaves Tryz.prog fn tmps (fun e w' => ReadC s w e w') [{ target := .fn (.func 179) #[.pointer (some ⟨w.heap.size, 0, none⟩)], args := #[] }] (.panicking [{ v := faultV g, recovered := false }]) w4 := by
  refine door_fault hc ?_
  have hlt : w.heap.size < w4.heap.size := (Array.getElem?_eq_some_iff.1 hc).1
  have hl5 : ((w4.setCell ⟨w.heap.size, 0, none⟩ (.iface 161 (ptrV g))).alloc (.cells #[ptrV g] 290)).heap[w.heap.size]? = some (.cells #[.iface 161 (ptrV g)] 90 (0, 0)) := by
    rw [Below.heap_alloc _ _ _ (by simp [World.setCell]; omega), heap_setCell_same hc]; rfl
  have hc5 : ((w4.setCell ⟨w.heap.size, 0, none⟩ (.iface 161 (ptrV g))).alloc (.cells #[ptrV g] 290)).cell? ⟨w.heap.size, 0, none⟩ = some (.iface 161 (ptrV g)) := by rw [cell_of_block hl5]; rfl
  have h4' : tmps[4]?.getD undef = .nilIface := by simpa using h4
  have h5' : tmps[5]?.getD undef = .pointer (some ⟨w.heap.size, 0, none⟩) := by simpa using h5
  refine ⟨.tuple #[.nilIface, .iface 161 (ptrV g)], ?_, ?_, ?_⟩
  · simp [results, hfn, h4', h5', go_sem, hc5]
  · exact (hB.setCell (p := ⟨w.heap.size, 0, none⟩) (Nat.le_refl _) _).alloc (by simp [World.setCell]; omega) _
  · rw [hr]
    refine ⟨g, rfl, ?_⟩
    rw [Below.heap_alloc _ _ _ (by have := (Array.getElem?_eq_some_iff.1 hg).1; simp [World.setCell]; omega), Below.heap_setCell _ _ _ _ (show g ≠ w.heap.size by omega)]
    exact hg

theorem Fr.toBelow {bp n : Nat} {vv vv' : Value} {a b : World} (h : Fr bp vv vv' a b) (hn : n ≤ a.heap.size) (hbp : n ≤ bp) (hv : ∀ k, vv.ownBlock = some k → n ≤ k) : Below n a b :=
  ⟨h.os, h.tape, h.output, h.size, fun k hk => h.block k (by omega) (by omega) (fun e => by have := hv k e; omega)⟩

theorem RIn.start {w2 : World} {toks : List Tok} {v : Value} {n0 : Nat} (hown : w2.ownsRow n0 298 3 v toks.length (tokC toks)) (hp : 0 < toks.length) :
    RIn (w2.alloc (.cells #[v, .int .i64 0, .int .i64 0, .slice none 0 0] 295)) w2.heap.size toks v (.slice none 0 0) 0 0 [] [] := by
  refine ⟨heap_alloc_new w2 _, (ownsRow_base hown (Nat.zero_le _)).alloc _, World.ownsRow_nil _ _ _ _, fun e => ?_, fun e => (by cases e), .inl rfl, hp, rfl, by simp, fun k b hk => (by simp at hk), List.nodup_nil⟩
  have := (hown.lt _ e).2
  omega

set_option maxRecDepth 100000 in
set_option maxHeartbeats 2000000 in
theorem reading_long_c (s : ByteArray) (w : World) (hs : 2000 < s.size) (hs2 : s.size ≤ 32768) :
    Calls Tryz.prog 138 #[.string s, .func (.func 139) #[] #[]] w fun e w' => ReadC s w e w' := by
  have hmf : ∀ (fn : Fn) (first cap : Array Value) (w : World), (Instr.makeFunc fn first cap).run Tryz.prog w = .ok (.func fn first cap) w := fun _ _ _ _ => rfl
  have HF := hide newFault_c
  have HR : Hid (termS s = .error (1, 0)) := by unfold Hid termS; rw [if_pos hs]
  go_enter_defers Tryz.func138, Tryz.ntmps138
  go_wp2_with (first | (go_at_call 154; refine (HF.out _ _ _).mono ?_; rintro e w2 ⟨g, hg2, rfl, hcell, hB⟩))
  have hb0 := boxed hB
  exact ReadC.err HR.out (below_box hB) hcell hb0 (by simp at hg2; omega) rfl rfl rfl

theorem SignsIn.alloc {w : World} (h : SignsIn w) (hng : 5 + 1 ≤ w.heap.size) (o : Obj) : SignsIn (w.alloc o) := h.below ((Below.refl w.heap.size w).alloc (Nat.le_refl _) o) (Nat.lt_of_lt_of_le (by decide) hng)

theorem fz_alloc {w : World} {b : Nat} {cs : Array Value} {T : TypeId} (h : w.heap[b]? = some (.cells cs T (0, 0))) (o : Obj) (j : Nat) : (w.alloc o).frozen? ⟨b, j, none⟩ = false :=
  fz_of (by rw [Below.heap_alloc _ _ _ (Array.getElem?_eq_some_iff.1 h).1]; exact h) j

/-- the error's block, behind the reading -/
theorem readBox {w w2 w9 : World} (hB : Below (w.alloc (.cells #[.nilIface] 90)).heap.size (w.alloc (.cells #[.nilIface] 90)) w2) (v vv' : Value) (h4 : Fr w2.heap.size (.slice none 0 0) vv' (w2.alloc (.cells #[v, .int .i64 0, .int .i64 0, .slice none 0 0] 295)) w9) :
    Below w.heap.size w w9 ∧ w9.heap[w.heap.size]? = some (.cells #[.nilIface] 90 (0, 0)) := by
  have hz := hB.size
  simp at hz
  have hFb : Below (w.heap.size + 1) (w2.alloc _) w9 := h4.toBelow (n := w.heap.size + 1) (by simp; omega) (by omega) (fun k e => by cases e)
  refine ⟨((below_box hB).alloc (by omega) _).trans (hFb.mono (by omega)), ?_⟩
  rw [hFb.block _ (by omega), Below.heap_alloc _ _ _ (by omega)]
  exact boxed hB

theorem reading_end {s : ByteArray} {w w9 : World} {x : Ex} {vars : List ByteArray} {vbs : List Nat} {tu : TypeId} {vu : Value} {fn : Func} {tmps : Array Value} {o : Obj} {bp i : Nat} {d : Int} {toks : List Tok} {lv vv : Value} (hr : termS s = .ok (x, vars)) (hB : Below w.heap.size w w9) (hbx : w9.heap[w.heap.size]? = some (.cells #[.nilIface] 90 (0, 0)))
    (hT : TRep w9 (fun _ => True) vbs x (.iface tu vu)) (hR : RIn w9 bp toks lv vv i d vars vbs) (hfn : fn.results = #[.tmp 4, .cell 5 90]) (h4 : tmps.getD 4 undef = .iface tu vu) (h5 : tmps.getD 5 undef = .pointer (some ⟨w.heap.size, 0, none⟩)) :
    Leaves Tryz.prog fn tmps (fun e w' => ReadC s w e w') [] .returning ((w9.setCell ⟨w.heap.size, 0, none⟩ .nilIface).alloc o).drew := by
  have hlt : w.heap.size < w9.heap.size := (Array.getElem?_eq_some_iff.1 hbx).1
  have hsz : (w9.setCell ⟨w.heap.size, 0, none⟩ .nilIface).heap.size = w9.heap.size := by simp [World.setCell]
  have hother : ∀ b, b < w9.heap.size → b ≠ w.heap.size → ((w9.setCell ⟨w.heap.size, 0, none⟩ .nilIface).alloc o).drew.heap[b]? = w9.heap[b]? := fun b hb hne => by
    show ((w9.setCell ⟨w.heap.size, 0, none⟩ .nilIface).alloc o).heap[b]? = w9.heap[b]?
    rw [Below.heap_alloc _ _ _ (by omega)]
    exact Below.heap_setCell _ _ _ _ hne
  have hl5 : ((w9.setCell ⟨w.heap.size, 0, none⟩ .nilIface).alloc o).drew.heap[w.heap.size]? = some (.cells #[.nilIface] 90 (0, 0)) := by
    show ((w9.setCell ⟨w.heap.size, 0, none⟩ .nilIface).alloc o).heap[w.heap.size]? = _
    rw [Below.heap_alloc _ _ _ (by omega), heap_setCell_same hbx]; rfl
  have hc5 : ((w9.setCell ⟨w.heap.size, 0, none⟩ .nilIface).alloc o).drew.cell? ⟨w.heap.size, 0, none⟩ = some .nilIface := by rw [cell_of_block hl5]; rfl
  have h4' : tmps[4]?.getD undef = .iface tu vu := by simpa using h4
  have h5' : tmps[5]?.getD undef = .pointer (some ⟨w.heap.size, 0, none⟩) := by simpa using h5
  generalize hW : ((w9.setCell ⟨w.heap.size, 0, none⟩ .nilIface).alloc o).drew = W at *
  refine ⟨.tuple #[.iface tu vu, .nilIface], ?_, ?_, ?_⟩
  · simp [results, hfn, h4', h5', go_sem, hc5]
  · rw [← hW]; exact ((hB.setCell (p := ⟨w.heap.size, 0, none⟩) (Nat.le_refl _) _).alloc (by omega) _).drew
  · rw [hr]
    refine ⟨_, vbs, rfl, hT.frame (fun b cs T hT2 hb => ?_) (fun _ h _ => h) (List.prefix_refl _), hR.vl, hR.nodup, hR.v12, fun b hb => ?_⟩
    rotate_left
    · obtain ⟨k, hk, rfl⟩ := List.getElem_of_mem hb
      obtain ⟨n, _, hn⟩ := hR.vblk k _ (List.getElem?_eq_getElem hk)
      refine ⟨_, _, (hother _ (Array.getElem?_eq_some_iff.1 hn).1 fun e => ?_).trans hn⟩
      rw [e, hbx] at hn
      injection hn with hn; injection hn with _ hn; cases hn
    rw [hother b (Array.getElem?_eq_some_iff.1 hb).1 ?_]
    · exact hb
    · rintro rfl
      rw [hbx] at hb
      injection hb with hb; injection hb with _ hb
      rcases hT2 with rfl | ⟨rfl, _⟩ <;> cases hb

set_option maxRecDepth 100000 in
set_option maxHeartbeats 2000000 in
theorem reading_c (s : ByteArray) (w : World) (hs : s.size ≤ 2000) (hsg : SignsIn w) (hng : 5 + 1 ≤ w.heap.size) :
    Calls Tryz.prog 138 #[.string s, .func (.func 139) #[] #[]] w fun e w' => ReadC s w e w' := by
  have hmf : ∀ (fn : Fn) (first cap : Array Value) (w : World), (Instr.makeFunc fn first cap).run Tryz.prog w = .ok (.func fn first cap) w := fun _ _ _ _ => rfl
  have HS := hide (fun (w' : World) (h1 : SignsIn w') (h2 : 5 + 1 ≤ w'.heap.size) => split_c s w' hs h1 h2)
  have ff0 := tok_f0
  have hsa := hide (fun o => hsg.alloc hng o)
  cases hl : lexS s with
  | error p =>
    have HR : Hid (termS s = .error (2, p)) := by unfold Hid termS; rw [if_neg (by omega), hl]
    have HS' : Hid (∀ w', SignsIn w' → 5 + 1 ≤ w'.heap.size → Calls Tryz.prog 155 #[.string s] w' fun e w'' => Below w'.heap.size w' w'' ∧ FaultAt 2 p w' e w'') := fun w' h1 h2 => (HS.out w' h1 h2).mono fun e w'' h => by unfold SplitPost at h; rw [hl] at h; exact h
    clear HS hl
    go_enter_defers Tryz.func138, Tryz.ntmps138
    go_wp2_with (first | (go_at_call 155; refine (HS'.out _ (hsa.out _) (by simp; omega)).mono ?_; rintro e w2 ⟨hB, g, hg2, rfl, hcell⟩))
    exact ReadC.err HR.out (below_box hB) hcell (boxed hB) (by simp at hg2; omega) rfl rfl rfl
  | ok l =>
    obtain ⟨toks, htk⟩ : ∃ toks, toks = withEnd s l := ⟨_, rfl⟩
    have hg := good_toks hs hl
    have ht := tts_of hl
    have hn : ∀ i, (tk (withEnd s l) i).t.size ≤ 2000 := fun i => by
      have hl' := lex_names s.size 0 [] l hl (by simp)
      unfold tk
      rw [List.getD_eq_getElem?_getD]
      cases q : (withEnd s l)[i]? with
      | none => simp
      | some t =>
        simp only [Option.getD_some]
        have hm := List.mem_of_getElem? q
        unfold withEnd at hm
        rcases List.mem_append.1 hm with hm | hm
        · have := hl' t hm; omega
        · have := List.mem_singleton.1 hm; subst this; simp
    rw [← htk] at hg ht hn
    have HS' : Hid (∀ w', SignsIn w' → 5 + 1 ≤ w'.heap.size → Calls Tryz.prog 155 #[.string s] w' fun e w'' => Below w'.heap.size w' w'' ∧ ∃ v, e = .returned v ∧ w''.ownsRow w'.heap.size 298 3 v toks.length (tokC toks)) := fun w' h1 h2 => (HS.out w' h1 h2).mono fun e w'' h => by unfold SplitPost at h; rw [hl] at h; rw [htk]; exact h
    have HE := hide (expr_at_c hg ht hn)
    have hts : termS s = match exprS toks 8 (0, []) with
      | .error e => .error e
      | .ok (x, st) => if (tk toks st.1).k = 101 then .ok (x, st.2) else .error (2, (tk toks st.1).a) := by unfold termS; rw [if_neg (by omega), hl, htk]; rfl
    clear HS hl htk
    cases hr : exprS toks 8 (0, []) with
    | error p =>
      obtain ⟨er, a⟩ := p
      have HR : Hid (termS s = .error (er, a)) := by rw [Hid, hts, hr]
      have HE' : Hid (∀ (w' : World) (bp : Nat) (lv : Value), RIn w' bp toks lv (.slice none 0 0) 0 0 [] [] → Calls Tryz.prog 139 #[ptrV bp] w' fun e w'' => RFault er a bp lv (.slice none 0 0) 0 w' e w'') := fun w' bp lv h' => (HE.out w' bp lv (.slice none 0 0) (0, []) [] h').mono fun e w'' h => by rw [hr] at h; exact h
      clear HE hts hr
      unfold ptrV at *
      go_enter_defers Tryz.func138, Tryz.ntmps138
      go_wp2_with (first | (go_at_call 155; refine (HS'.out _ (hsa.out _) (by simp; omega)).mono ?_; rintro e w2 ⟨hB, v, rfl, hown⟩; have hR := RIn.start hown hg.pos; obtain ⟨ao, cp, hvf⟩ := row_form hown; subst hvf) | (go_at_call 139; refine (HE'.out _ _ _ hR).mono ?_; rintro e w9 hF; have hF' := hF; obtain ⟨g, vv', i', h1, rfl, h3, h4, h5⟩ := hF))
      have hz := hB.size
      simp at hz
      have hbx := boxed hB
      have hB2 : Below w.heap.size w w2 := below_box hB
      have hFb : Below (w.heap.size + 1) (w2.alloc _) w9 := h4.toBelow (n := w.heap.size + 1) (by simp; omega) (by omega) (fun k e => by cases e)
      refine ReadC.err HR.out ((hB2.alloc (by omega) _).trans (hFb.mono (by omega))) h3 ?_ (by simp at h1; omega) rfl rfl rfl
      rw [hFb.block _ (by omega), Below.heap_alloc _ _ _ (by omega)]
      exact hbx
    | ok p =>
      obtain ⟨x, st⟩ := p
      have HE' : Hid (∀ (w' : World) (bp : Nat) (lv : Value), RIn w' bp toks lv (.slice none 0 0) 0 0 [] [] → Calls Tryz.prog 139 #[ptrV bp] w' fun e w'' => ∃ (u vv' : Value) (vbs' : List Nat), e = .returned u ∧ TRep w'' (fun b => w'.heap.size ≤ b) vbs' x u ∧ RIn w'' bp toks lv vv' st.1 0 st.2 vbs' ∧ [] <+: vbs' ∧ Fr bp (.slice none 0 0) vv' w' w'') := fun w' bp lv h' => (HE.out w' bp lv (.slice none 0 0) (0, []) [] h').mono fun e w'' h => by rw [hr] at h; exact h
      rw [hr] at hts
      have hts : termS s = if (tk toks st.1).k = 101 then .ok (x, st.2) else .error (2, (tk toks st.1).a) := hts
      have HN := hide (fun (w' : World) (bp : Nat) (lv vv' : Value) (vbs' : List Nat) (h' : RIn w' bp toks lv vv' st.1 0 st.2 vbs') => now_c h' hg)
      have hke := (ht st.1).kC_end
      have HM := hide (fun (w' : World) (bp : Nat) (lv vv' : Value) (vbs' : List Nat) (h' : RIn w' bp toks lv vv' st.1 0 st.2 vbs') => misplaced_c h' hg)
      have HBX := hide (fun (w2 : World) (h : Below (w.alloc (.cells #[.nilIface] 90)).heap.size (w.alloc (.cells #[.nilIface] 90)) w2) (v vv' : Value) (w9 : World) (h4 : Fr w2.heap.size (.slice none 0 0) vv' (w2.alloc (.cells #[v, .int .i64 0, .int .i64 0, .slice none 0 0] 295)) w9) => readBox h v vv' h4)
      obtain ⟨t, hT⟩ : ∃ t, t = tk toks st.1 := ⟨_, rfl⟩
      rw [← hT] at HN HM hke hts
      unfold tokVC tokB at HN
      obtain ⟨K, hK⟩ : ∃ K, K = kC t.k := ⟨_, rfl⟩
      rw [← hK] at HN hke
      have HK := hide hK.symm
      by_cases hk : t.k = 101
      · have h4 : K = 4 := hke.2 hk
        have HR : Hid (termS s = .ok (x, st.2)) := by rw [Hid, hts]; simp only [hk, if_true]
        clear HE hts hr hke hT hk hK HM
        subst h4
        unfold ptrV at *
        go_enter_defers Tryz.func138, Tryz.ntmps138
        go_wp2_with (first | (go_at_call 155; refine (HS'.out _ (hsa.out _) (by simp; omega)).mono ?_; rintro e w2 ⟨hB, v, rfl, hown⟩; have hR := RIn.start hown hg.pos; obtain ⟨ao, cp, hvf⟩ := row_form hown; subst hvf) | (go_at_call 139; refine (HE'.out _ _ _ hR).mono ?_; rintro e w9 ⟨u9, vv9, vbs9, rfl, r1, r2, r3, r4⟩; obtain ⟨tu9, vu9, hu9, _⟩ := r1.form; subst hu9; obtain ⟨hBw, hbx⟩ := HBX.out w2 hB _ _ w9 r4; have hbc : ∀ o, (w9.alloc o).cell? ⟨w.heap.size, 0, none⟩ = some .nilIface := cell_alloc1 (by rw [cell_of_block hbx]; rfl); have hbf : ∀ o, (w9.alloc o).frozen? ⟨w.heap.size, 0, none⟩ = false := fun o => fz_alloc hbx o 0; have hbl : w.heap.size < w9.heap.size := (Array.getElem?_eq_some_iff.1 hbx).1) | (go_at_call 156; refine (HN.out _ _ _ _ _ r2).mono ?_; rintro e w10 ⟨rfl, rfl⟩))
        exact door_ret (reading_end HR.out hBw hbx (r1.mono fun _ _ _ => trivial) r2 rfl rfl rfl)
      · have h4 : ¬ K = 4 := fun e => hk (hke.1 e)
        have HR : Hid (termS s = .error (2, t.a)) := by rw [Hid, hts]; simp only [hk, if_false]
        clear HE hts hr hke hT hk hK
        unfold ptrV at *
        go_enter_defers Tryz.func138, Tryz.ntmps138
        go_wp2_with (first | (go_at_call 155; refine (HS'.out _ (hsa.out _) (by simp; omega)).mono ?_; rintro e w2 ⟨hB, v, rfl, hown⟩; have hR := RIn.start hown hg.pos; obtain ⟨ao, cp, hvf⟩ := row_form hown; subst hvf) | (go_at_call 139; refine (HE'.out _ _ _ hR).mono ?_; rintro e w9 ⟨u9, vv9, vbs9, rfl, r1, r2, r3, r4⟩; obtain ⟨tu9, vu9, hu9, _⟩ := r1.form; subst hu9; obtain ⟨hBw, hbx⟩ := HBX.out w2 hB _ _ w9 r4; have hbc : ∀ o, (w9.alloc o).cell? ⟨w.heap.size, 0, none⟩ = some .nilIface := cell_alloc1 (by rw [cell_of_block hbx]; rfl); have hbf : ∀ o, (w9.alloc o).frozen? ⟨w.heap.size, 0, none⟩ = false := fun o => fz_alloc hbx o 0; have hbl : w.heap.size < w9.heap.size := (Array.getElem?_eq_some_iff.1 hbx).1) | (go_at_call 156; refine (HN.out _ _ _ _ _ r2).mono ?_; rintro e w10 ⟨rfl, rfl⟩) | (go_at_call 157; refine (HM.out _ _ _ _ _ (r2.alloc _).drew).mono ?_; rintro e w11 ⟨g, hg2, rfl, hcell, hB11⟩))
        have hB12 : Below w9.heap.size w9 w11 := (((Below.refl _ _).alloc (Nat.le_refl _) _).drew).trans (hB11.mono (by simp))
        refine ReadC.err HR.out (below_chain hBw hB12) hcell (by rw [hB12.block _ hbl]; exact hbx) (by simp at hg2; omega) rfl rfl rfl

set_option maxHeartbeats 400000 in
theorem syntaxTerm_c (s : ByteArray) (w : World) (hs : s.size ≤ 32768) (hsg : SignsIn w) (hng : 5 + 1 ≤ w.heap.size) :
    Calls Tryz.prog 93 #[.string s] w fun e w' => ReadC s w e w' := by
  have HRd : Hid (Calls Tryz.prog 138 #[.string s, .func (.func 139) #[] #[]] w fun e w' => ReadC s w e w') := by
    by_cases h : s.size ≤ 2000
    · exact reading_c s w h hsg hng
    · exact reading_long_c s w (by omega) hs
  cases hr : termS s with
  | error p =>
    obtain ⟨er, a⟩ := p
    have HRd' : Hid (Calls Tryz.prog 138 #[.string s, .func (.func 139) #[] #[]] w fun e w' => Below w.heap.size w w' ∧ ∃ g, e = .returned (.tuple #[.nilIface, .iface 161 (ptrV g)]) ∧ w'.heap[g]? = some (atV er a)) := HRd.out.mono fun e w' h => by unfold ReadC at h; rw [hr] at h; exact h
    have HR := hide hr
    clear HRd hr
    go_enter Tryz.func93, Tryz.ntmps93
    go_wp2_with (first | (go_at_call 138; refine HRd'.out.mono ?_; rintro e w1 ⟨hB, g, rfl, hc⟩))
    go_ret2
    exact ⟨hB, by rw [HR.out]; exact ⟨g, rfl, hc⟩⟩
  | ok p =>
    obtain ⟨x, vars⟩ := p
    have HRd' : Hid (Calls Tryz.prog 138 #[.string s, .func (.func 139) #[] #[]] w fun e w' => Below w.heap.size w w' ∧ ∃ (u : Value) (vbs : List Nat), e = .returned (.tuple #[u, .nilIface]) ∧ TRep w' (fun _ => True) vbs x u ∧ vbs.length = vars.length ∧ vbs.Nodup ∧ vars.length ≤ 12 ∧ VarBlks w' vbs) := HRd.out.mono fun e w' h => by unfold ReadC at h; rw [hr] at h; exact h
    have HR := hide hr
    clear HRd hr
    go_enter Tryz.func93, Tryz.ntmps93
    go_wp2_with (first | (go_at_call 138; refine HRd'.out.mono ?_; rintro e w1 ⟨hB, u, vbs, rfl, h1, h2⟩))
    go_ret2
    exact ⟨hB, by rw [HR.out]; exact ⟨u, vbs, rfl, h1, h2⟩⟩

end Go.Proofs.YtodpkdajbnceoaaGreatDoor
