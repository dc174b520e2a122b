import Derived.Test.YtdigbgbmfjggnaaGreatDoorPart21
import Derived.Shelf.Abstract
set_option linter.unusedVariables false
set_option linter.unusedSimpArgs false
namespace Go.Proofs.YtdigbgbmfjggnaaGreatDoor
open Go.RowKit Go.Shelf

/-! How close a term's sign binds; cells of lists. -/

def strOf : Ex → Int
  | .cmp n args => if args.length = 2 then ssS n else 3
  | _ => 3

/-- a name with arguments, as it lies -/
def CompAt (w : World) (g : Nat) (n : ByteArray) (ga k cap : Nat) : Prop := w.heap[g]? = some (.cells #[.string n, .slice (some ⟨ga, 0, none⟩) k cap] 290 (0, 0))

set_option maxRecDepth 100000 in
set_option maxHeartbeats 400000 in
theorem isCell_c {w : World} {g ga k cap : Nat} {n : ByteArray} (h : CompAt w g n ga k cap) (hk : k ≤ maxLen) :
    Calls Tryz.prog 169 #[ptrV g] w fun e w' => e = .returned (.bool (decide (n = B [46] ∧ k = 2))) ∧ w' = w := by
  have c0 : w.cell? ⟨g, 0, none⟩ = some (.string n) := by rw [cell_of_block h]; rfl
  have c1 : w.cell? ⟨g, 1, none⟩ = some (.slice (some ⟨ga, 0, none⟩) k cap) := by rw [cell_of_block h]; rfl
  have hlt : g < w.heap.size := (Array.getElem?_eq_some_iff.1 h).1
  have hs := strb n [46]
  unfold maxLen at hk
  clear h
  unfold ptrV
  go_enter Tryz.func169, Tryz.ntmps169
  go_wp2
  all_goals go_ret
  all_goals refine ⟨congrArg (fun b => Ending.returned (Value.bool b)) ?_, rfl⟩
  · have h1 : n = B [46] := by simp_all
    have h2 : ((k : Int) == 2) = decide (k = 2) := by
      rw [Bool.eq_iff_iff]; simp; omega
    rw [h2]
    simp [h1]
  · have h1 : ¬ n = B [46] := by simp_all
    simp [h1]

set_option maxRecDepth 100000 in
set_option maxHeartbeats 400000 in
theorem compStrength_c {w : World} {g ga k cap : Nat} {n : ByteArray} (h : CompAt w g n ga k cap) (hk : k ≤ maxLen) :
    Calls Tryz.prog 198 #[ptrV g] w fun e w' => e = .returned (.int .i64 (if k = 2 then ssS n else 3)) ∧ w' = w := by
  have c0 : w.cell? ⟨g, 0, none⟩ = some (.string n) := by rw [cell_of_block h]; rfl
  have c1 : w.cell? ⟨g, 1, none⟩ = some (.slice (some ⟨ga, 0, none⟩) k cap) := by rw [cell_of_block h]; rfl
  have hlt : g < w.heap.size := (Array.getElem?_eq_some_iff.1 h).1
  have HS := hide (signStrength_c n w)
  unfold maxLen at hk
  clear h
  unfold ptrV
  by_cases hk2 : k = 2
  · subst hk2
    go_enter Tryz.func198, Tryz.ntmps198
    go_wp2_with (go_at_call 163; refine HS.out.mono ?_; rintro e w1 ⟨rfl, rfl⟩)
    go_ret
    exact ⟨rfl, rfl⟩
  · rw [if_neg hk2]
    go_enter Tryz.func198, Tryz.ntmps198
    go_wp2
    go_ret
    exact ⟨rfl, rfl⟩

theorem Tryz.mStrA (n : ByteArray) (w : World) : (Go.method 464 262 (.string n) "Strength").run Tryz.prog w = .ok (251, .string n) w := by kernel_rfl
theorem Tryz.mStrN (v : Int) (w : World) : (Go.method 464 265 (.int .i64 v) "Strength").run Tryz.prog w = .ok (252, .int .i64 v) w := by kernel_rfl
theorem Tryz.mStrV (b : Nat) (w : World) : (Go.method 464 267 (ptrV b) "Strength").run Tryz.prog w = .ok (253, ptrV b) w := by kernel_rfl
theorem Tryz.mStrC (b : Nat) (w : World) : (Go.method 464 269 (ptrV b) "Strength").run Tryz.prog w = .ok (198, ptrV b) w := by kernel_rfl

/-- the method that a term's value answers with -/
structure StrM (w : World) (x : Ex) (u : Value) (t : TypeId) (v : Value) (f : FuncId) : Prop where
  u : u = .iface t v
  m : ∀ w', (Go.method 464 t v "Strength").run Tryz.prog w' = .ok (f, v) w'
  e : Enters Tryz.prog f
  c : ∀ w', TKeeps (fun _ => True) w w' → Calls Tryz.prog f #[v] w' fun e w'' => e = .returned (.int .i64 (strOf x)) ∧ w'' = w'

set_option maxRecDepth 100000 in
set_option maxHeartbeats 400000 in
theorem TRep.str {w : World} {Ok : Nat → Prop} {vbs : List Nat} {x : Ex} {u : Value} (h : TRep w Ok vbs x u) : ∃ t v f, StrM w x u t v f := by
  cases h with
  | atom n =>
    refine ⟨_, _, 251, rfl, Tryz.mStrA n, enters_of Tryz.func251 (by kernel_rfl) rfl, fun w' _ => ?_⟩
    go_enter Tryz.func251, Tryz.ntmps251
    go_wp2
    go_ret
    exact ⟨rfl, rfl⟩
  | num v =>
    refine ⟨_, _, 252, rfl, Tryz.mStrN v, enters_of Tryz.func252 (by kernel_rfl) rfl, fun w' _ => ?_⟩
    go_enter Tryz.func252, Tryz.ntmps252
    go_wp2
    go_ret
    exact ⟨rfl, rfl⟩
  | var k b hk =>
    refine ⟨_, _, 253, rfl, Tryz.mStrV b, enters_of Tryz.func253 (by kernel_rfl) rfl, fun w' _ => ?_⟩
    unfold ptrV
    go_enter Tryz.func253, Tryz.ntmps253
    go_wp2
    go_ret
    exact ⟨rfl, rfl⟩
  | cmp n args g ga cap cur us hg ho ha hc hm hs hu hr =>
    refine ⟨_, _, 198, rfl, Tryz.mStrC g, enters_of Tryz.func198 (by kernel_rfl) rfl, fun w' hk => ?_⟩
    exact compStrength_c (hk g _ _ (.inl rfl) hg) (Nat.le_trans hc hm)

set_option maxRecDepth 100000 in
set_option maxHeartbeats 400000 in
theorem isOperation_c {w : World} {Ok : Nat → Prop} {vbs : List Nat} {x : Ex} {u : Value} (h : TRep w Ok vbs x u) :
    Calls Tryz.prog 171 #[u] w fun e w' => e = .returned (.bool (decide (strOf x < 3))) ∧ w' = w := by
  obtain ⟨t, v, f, hM⟩ := h.str
  have hm := hM.m
  have he : ∀ args w, (callFunc f args).run Tryz.prog w = .ok (.enter f args) w := hM.e
  have HC := hide (hM.c w (fun _ _ _ _ h => h))
  have hu := hM.u
  clear hM h
  subst hu
  go_enter Tryz.func171, Tryz.ntmps171
  go_wp2_with (go_at_fn f; refine HC.out.mono ?_; rintro e w1 ⟨rfl, rfl⟩)
  go_ret
  exact ⟨rfl, rfl⟩

end Go.Proofs.YtdigbgbmfjggnaaGreatDoor

namespace Go.Proofs.YtdigbgbmfjggnaaGreatDoor
open Go.RowKit Go.Shelf

/-! A list is taken apart. -/

theorem Tryz.taAA (v : Value) (w : World) : (Instr.typeAssert (.iface 262 v) 164 262 true).run Tryz.prog w = .ok (.tuple #[v, .bool true]) w := by kernel_rfl
theorem Tryz.taAN (v : Value) (w : World) : (Instr.typeAssert (.iface 262 v) 164 265 true).run Tryz.prog w = .ok (.tuple #[.int .i64 0, .bool false]) w := by kernel_rfl
theorem Tryz.taAV (v : Value) (w : World) : (Instr.typeAssert (.iface 262 v) 164 267 true).run Tryz.prog w = .ok (.tuple #[.pointer none, .bool false]) w := by kernel_rfl
theorem Tryz.taAC (v : Value) (w : World) : (Instr.typeAssert (.iface 262 v) 164 269 true).run Tryz.prog w = .ok (.tuple #[.pointer none, .bool false]) w := by kernel_rfl
theorem Tryz.taNA (v : Value) (w : World) : (Instr.typeAssert (.iface 265 v) 164 262 true).run Tryz.prog w = .ok (.tuple #[.string ByteArray.empty, .bool false]) w := by kernel_rfl
theorem Tryz.taNN (v : Value) (w : World) : (Instr.typeAssert (.iface 265 v) 164 265 true).run Tryz.prog w = .ok (.tuple #[v, .bool true]) w := by kernel_rfl
theorem Tryz.taNV (v : Value) (w : World) : (Instr.typeAssert (.iface 265 v) 164 267 true).run Tryz.prog w = .ok (.tuple #[.pointer none, .bool false]) w := by kernel_rfl
theorem Tryz.taNC (v : Value) (w : World) : (Instr.typeAssert (.iface 265 v) 164 269 true).run Tryz.prog w = .ok (.tuple #[.pointer none, .bool false]) w := by kernel_rfl
theorem Tryz.taVA (v : Value) (w : World) : (Instr.typeAssert (.iface 267 v) 164 262 true).run Tryz.prog w = .ok (.tuple #[.string ByteArray.empty, .bool false]) w := by kernel_rfl
theorem Tryz.taVN (v : Value) (w : World) : (Instr.typeAssert (.iface 267 v) 164 265 true).run Tryz.prog w = .ok (.tuple #[.int .i64 0, .bool false]) w := by kernel_rfl
theorem Tryz.taVV (v : Value) (w : World) : (Instr.typeAssert (.iface 267 v) 164 267 true).run Tryz.prog w = .ok (.tuple #[v, .bool true]) w := by kernel_rfl
theorem Tryz.taVC (v : Value) (w : World) : (Instr.typeAssert (.iface 267 v) 164 269 true).run Tryz.prog w = .ok (.tuple #[.pointer none, .bool false]) w := by kernel_rfl
theorem Tryz.taCA (v : Value) (w : World) : (Instr.typeAssert (.iface 269 v) 164 262 true).run Tryz.prog w = .ok (.tuple #[.string ByteArray.empty, .bool false]) w := by kernel_rfl
theorem Tryz.taCN (v : Value) (w : World) : (Instr.typeAssert (.iface 269 v) 164 265 true).run Tryz.prog w = .ok (.tuple #[.int .i64 0, .bool false]) w := by kernel_rfl
theorem Tryz.taCV (v : Value) (w : World) : (Instr.typeAssert (.iface 269 v) 164 267 true).run Tryz.prog w = .ok (.tuple #[.pointer none, .bool false]) w := by kernel_rfl
theorem Tryz.taCC (v : Value) (w : World) : (Instr.typeAssert (.iface 269 v) 164 269 true).run Tryz.prog w = .ok (.tuple #[v, .bool true]) w := by kernel_rfl

def NoCell (r : Ex) : Prop := ∀ a b, r ≠ cellEx a b

structure ElOn (w : World) (vbs : List Nat) (x : Ex) (g : Nat) (ev rv : Value) (wr : World) (exs : List Ex) (rest : Ex) (us : List Value) : Prop where
  eq : x = exs.foldr cellEx rest
  sz : szE rest = g
  small : exs.length + szE rest ≤ szE x
  own : wr.ownsRow w.heap.size 164 1 ev exs.length us
  rep : TRepL wr (fun b => b < w.heap.size) vbs exs us
  rest : TRep wr (fun b => b < w.heap.size) vbs rest rv
  below : Below w.heap.size w wr

theorem el_keep {w wr w2 : World} {ev : Value} {m : Nat} {us : List Value} {o : Obj} (hown : wr.ownsRow w.heap.size 164 1 ev m us) (hB : Below w.heap.size w wr) (hg : (wr.alloc o).grownBy w2 ev.ownBlock) : TKeeps (fun b => b < w.heap.size) wr w2 ∧ Below w.heap.size w w2 := by
  have hz := hB.size
  have hkeep : ∀ b, b < wr.heap.size → ev.ownBlock ≠ some b → w2.heap[b]? = wr.heap[b]? := fun b hb hv => by
    rw [hg.block b (by simp; omega) (fun e => hv e.symm), Below.heap_alloc _ _ _ hb]
  refine ⟨fun b cs T hT hb => ?_, ?_⟩
  · rw [hkeep b (Array.getElem?_eq_some_iff.1 hb).1 ?_]
    · exact hb
    · intro e
      obtain ⟨h1, cs', h2⟩ := own_blk hown e
      rcases hT with rfl | ⟨rfl, hq⟩
      · rw [h2] at hb; injection hb with hb; injection hb with _ hb; cases hb
      · have hq' : b < w.heap.size := hq
        omega
  · refine ⟨hg.os.trans hB.os, hg.tape.trans hB.tape, hg.output.trans hB.output, by have := hg.size; simp at this; omega, fun b hb => ?_⟩
    rw [hkeep b (by omega) (fun e => by have := (own_blk hown e).1; omega)]
    exact hB.block b hb

set_option maxRecDepth 100000 in
set_option maxHeartbeats 4000000 in
theorem elementsOf_c {w : World} {Ok : Nat → Prop} {vbs : List Nat} {x : Ex} {u : Value} (h : TRep w Ok vbs x u) (hsm : szE x ≤ 100000) :
    Calls Tryz.prog 196 #[u] w fun e w' => ∃ (ev rv : Value) (exs : List Ex) (rest : Ex) (us : List Value), e = .returned (.tuple #[ev, rv]) ∧ NoCell rest ∧ ElOn w vbs x (szE rest) ev rv w' exs rest us := by
  have hst : ElOn w vbs x (szE x) (.slice none 0 0) u w [] x [] := ⟨rfl, rfl, by simp, World.ownsRow_nil _ _ _ _, .nil, h.mono (fun b _ hb => hb), Below.refl _ _⟩
  have HST := hide hst
  obtain ⟨i0, hi, hz0, hz1, hz2⟩ := info_parts Tryz.infoTerm
  obtain ⟨tu, vu, rfl, _⟩ := h.form
  have HIC := hide (fun (w : World) (g ga k cap : Nat) (n : ByteArray) (h1 : CompAt w g n ga k cap) (h2 : k ≤ maxLen) => isCell_c h1 h2)
  clear hst h
  go_enter Tryz.func196, Tryz.ntmps196
  go_wp2_with fail
  go_loopg [2, 3] (szE x) (fun g ev rv wr => ∃ exs rest us, ElOn w vbs x g ev rv wr exs rest us)
  case atStart => exact ⟨[], x, [], HST.out⟩
  case round =>
    obtain ⟨exs, rest, us, hO⟩ := hrel
    have HO := hide hO
    have hrest := hO.rest
    have hown := hO.own
    have hsml := hO.small
    have hsz := hO.sz
    have hBz := hO.below.size
    have hpos := szE_pos rest
    obtain ⟨ao, cp, hvf⟩ := row_form hown
    subst hvf
    clear hO
    have tAC := Tryz.taAC
    have tNC := Tryz.taNC
    have tVC := Tryz.taVC
    have tCC := Tryz.taCC
    cases hrest with
    | atom n =>
      go_wp2_with fail
      go_ret2
      exact ⟨_, _, exs, _, us, rfl, fun a b e => (by cases e), HO.out.sz ▸ HO.out⟩
    | num v =>
      go_wp2_with fail
      go_ret2
      exact ⟨_, _, exs, _, us, rfl, fun a b e => (by cases e), HO.out.sz ▸ HO.out⟩
    | var k b hk =>
      go_wp2_with fail
      go_ret2
      exact ⟨_, _, exs, _, us, rfl, fun a b e => (by cases e), HO.out.sz ▸ HO.out⟩
    | cmp n args gg ga cap cur us1 hg ho ha hc hm hs hu hr =>
      have HICg := hide (fun (h1 : args.length ≤ maxLen) => HIC.out wr gg ga args.length cap n hg h1)
      have hgl : gg < wr.heap.size := (Array.getElem?_eq_some_iff.1 hg).1
      have hgal : ga < wr.heap.size := (Array.getElem?_eq_some_iff.1 ha).1
      have c1 : wr.cell? ⟨gg, 1, none⟩ = some (.slice (some ⟨ga, 0, none⟩) args.length cap) := by rw [cell_of_block hg]; rfl
      have hlm : args.length ≤ maxLen := Nat.le_trans hc hm
      by_cases hcell : n = B [46] ∧ args.length = 2
      · obtain ⟨hn, hl2⟩ := hcell
        obtain ⟨y, z, rfl⟩ : ∃ y z, args = [y, z] := by
          match args, hl2 with
          | [y, z], _ => exact ⟨y, z, rfl⟩
        cases hr with
        | cons _ _ uy us2 hy hr2 =>
        cases hr2 with
        | cons _ _ uz us3 hz hr3 =>
        cases hr3
        have d0 : wr.cell? ⟨ga, 0, none⟩ = some uy := rowCell ha hu rfl
        have d1 : wr.cell? ⟨ga, 1, none⟩ = some uz := rowCell ha hu rfl
        obtain ⟨ty, vy, hyf, _⟩ := hy.form
        obtain ⟨tz, vz, hzf, _⟩ := hz.form
        subst hyf hzf
        have hszc : szE (.cmp n [y, z]) = 1 + szE y + szE z := by simp [szE, szL]; omega
        have hpy := szE_pos y
        have hpz := szE_pos z
        have HY := hide hy
        have HZ := hide hz
        have HG := hide hg
        have HA := hide ha
        have HU := hide hu
        have HGA := hide ho
        clear hg ha hs hu hy hz ho
        have hd : decide (n = B [46] ∧ [y, z].length = 2) = true := decide_eq_true ⟨hn, hl2⟩
        have hel : exs.length ≤ 100000 := by omega
        unfold ptrV at *
        go_wp2_with (first | (go_at_call 169; refine (HICg.out hlm).mono ?_; rw [hd]; rintro e w1 ⟨rfl, rfl⟩) | (at_builtin; refine wpList_append_own2 rfl _ _ 271 rfl w.heap.size 164 i0 .nilIface 1 16 Tryz.underlyingTerms hi hz0 hz1 hz2 rfl (by decide) _ _ _ rfl (hown.alloc _) _ 1 1 [.iface ty vy] rfl rfl ?c1 ?c2 ?c3 ?c4 ?c5 ?_))
        case c1 => exact cell_one_new _ _ _
        case c2 => intro u hu; simp at hu; subst hu; rfl
        case c3 => unfold maxLen; omega
        case c4 => omega
        case c5 => simp; omega
        intro v' w2 ho2 hgr hnw
        obtain ⟨k1, k2⟩ := el_keep hown HO.out.below hgr
        have hg2 := k1 gg _ _ (.inl rfl) HG.out
        have ha2 := k1 ga _ _ (.inr ⟨rfl, HGA.out⟩) HA.out
        have c1' : w2.cell? ⟨gg, 1, none⟩ = some (.slice (some ⟨ga, 0, none⟩) [y, z].length cap) := by rw [cell_of_block hg2]; rfl
        have d1' : w2.cell? ⟨ga, 1, none⟩ = some (.iface tz vz) := rowCell ha2 HU.out rfl
        obtain ⟨ao2, cp2, hvf2⟩ := row_form ho2
        have HO2 := hide ho2
        clear hg2 ha2 hown ho2
        subst hvf2
        go_wp2_with fail
        go_roundg (szE z)
        case measure => omega
        case rel =>
          refine ⟨exs ++ [y], z, us ++ [.iface ty vy], ?_, rfl, ?_, ?_, ?_, HZ.out.frame k1 (fun _ h _ => h) (List.prefix_refl _), k2⟩
          · rw [HO.out.eq, List.foldr_append]; simp only [List.foldr_cons, List.foldr_nil, cellEx, hn]
          · have := HO.out.small
            simp
            omega
          · have := HO2.out
            simpa using this
          · exact (HO.out.rep.frame k1 (fun _ h _ => h) (List.prefix_refl _)).snoc (HY.out.frame k1 (fun _ h _ => h) (List.prefix_refl _))
      · have hd : decide (n = B [46] ∧ args.length = 2) = false := decide_eq_false hcell
        have HNC : Hid (NoCell (.cmp n args)) := fun a b e => hcell (by cases e; exact ⟨rfl, rfl⟩)
        clear hg ha hs hu hr hcell
        unfold ptrV at *
        go_wp2_with (go_at_call 169; refine (HICg.out hlm).mono ?_; rw [hd]; rintro e w1 ⟨rfl, rfl⟩)
        go_ret2
        exact ⟨_, _, exs, _, us, rfl, HNC.out, HO.out.sz ▸ HO.out⟩

end Go.Proofs.YtdigbgbmfjggnaaGreatDoor

namespace Go.Proofs.YtdigbgbmfjggnaaGreatDoor
open Go.RowKit Go.Shelf

/-! Rows of terms are written. -/

structure WCtx (w0 : World) (vbs : List Nat) : Prop where
  vb : VarBlks w0 vbs
  nd : vbs.Nodup
  tab : ∀ w, Below w0.heap.size w0 w → Lib.TabIs Tryz.prog w "internal/strconv.uint64pow10" .u64 Lib.pow10Tab

structure WOn (w0 : World) (vbs : List Nat) (w : World) (wb mb : Nat) (out : List UInt8) (bv : Value) (seen : List Nat) : Prop where
  wr : WrIn w wb mb w0.heap.size out bv (seen.map fun k => vbs.getD k 0)
  seen : ∀ k, k ∈ seen → k < vbs.length
  below : Below w0.heap.size w0 w

def WPost (w0 : World) (vbs : List Nat) (wb mb : Nat) (out : List UInt8) (bv : Value) (w : World) (r : List UInt8 × List Nat) (e : Ending) (w' : World) : Prop :=
  e = .returned (.tuple #[]) ∧ ∃ bv', WOn w0 vbs w' wb mb (out ++ r.1) bv' r.2 ∧ WFr wb mb bv bv' w w'

theorem WPost.mk' {w0 : World} {vbs : List Nat} {wb mb : Nat} {out out' : List UInt8} {bv bv' : Value} {w w' : World} {r : List UInt8 × List Nat} {sn : List Nat} (h : WOn w0 vbs w' wb mb out' bv' sn) (hf : WFr wb mb bv bv' w w') (h1 : out' = out ++ r.1) (h2 : sn = r.2) : WPost w0 vbs wb mb out bv w r (.returned (.tuple #[])) w' :=
  ⟨rfl, bv', by rw [← h1, ← h2]; exact h, hf⟩

section
variable {w0 : World} {vbs : List Nat} {w : World} {wb mb : Nat} {out : List UInt8} {bv : Value} {seen : List Nat}

theorem WFr.toBelow {n0 : Nat} {bv' : Value} {w' : World} {ks : List Nat} (h : WrIn w wb mb n0 out bv ks) (hn : n0 ≤ w.heap.size) (hf : WFr wb mb bv bv' w w') : Below n0 w w' :=
  ⟨hf.os, hf.tape, hf.output, hf.size, fun b hb => hf.block b (by omega) (fun e => by have := h.nm; omega) (fun e => by have := h.nw; omega) (fun e => by have := (h.buf.lt b e).1; omega)⟩

theorem WrIn.tkeeps {n0 : Nat} {bv' : Value} {w' : World} {ks : List Nat} {Ok : Nat → Prop} (h : WrIn w wb mb n0 out bv ks) (hf : WFr wb mb bv bv' w w') : TKeeps Ok w w' := by
  intro b cs T hT0 hb
  have hT : T = 290 ∨ T = 164 := hT0.elim .inl (fun h => .inr h.1)
  clear hT0
  rw [hf.block b (Array.getElem?_eq_some_iff.1 hb).1 ?_ ?_ ?_]
  · exact hb
  · rintro rfl
    rw [h.map] at hb
    injection hb with hb; cases hb
  · rintro rfl
    obtain ⟨ad, _, hc⟩ := h.cells
    rw [hc] at hb
    injection hb with hb; injection hb with _ hb
    rcases hT with rfl | rfl <;> cases hb
  · intro hv
    rcases h.buf.2 with ⟨hl, _⟩ | ⟨g, cap, cur, rfl, _, r2, _⟩
    · rw [hl] at hv; cases hv
    · cases hv
      rw [r2] at hb
      injection hb with hb; injection hb with _ hb
      rcases hT with rfl | rfl <;> cases hb

/-- bytes were written -/
theorem WOn.wrote {out' : List UInt8} {bv' : Value} {w' : World} (h : WOn w0 vbs w wb mb out bv seen) (h1 : WrIn w' wb mb w0.heap.size out' bv' (seen.map fun k => vbs.getD k 0)) (hf : WFr wb mb bv bv' w w') : WOn w0 vbs w' wb mb out' bv' seen :=
  ⟨h1, h.seen, h.below.trans (hf.toBelow h.wr h.below.size)⟩

theorem WOn.below' {w' : World} (h : WOn w0 vbs w wb mb out bv seen) (hB : Below w.heap.size w w') : WOn w0 vbs w' wb mb out bv seen :=
  ⟨h.wr.below hB, h.seen, h.below.trans (hB.mono h.below.size)⟩

theorem byte_w (h : WOn w0 vbs w wb mb out bv seen) (c : UInt8) (hs : out.length + 1 ≤ 300000000) :
    Calls Tryz.prog 173 #[ptrV wb, .int .u8 c.toNat] w fun e w' => ∃ v bv', e = .returned v ∧ WOn w0 vbs w' wb mb (out ++ [c]) bv' seen ∧ WFr wb mb bv bv' w w' :=
  (writeByte_c h.wr c (by omega)).mono fun e w' ⟨v, hv, bv', h1, h2⟩ => ⟨v, bv', hv, h.wrote h1 h2, h2⟩

theorem str_w (h : WOn w0 vbs w wb mb out bv seen) (s : ByteArray) (hs : out.length + s.size ≤ 300000000) :
    Calls Tryz.prog 137 #[ptrV wb, .string s] w fun e w' => ∃ v bv', e = .returned v ∧ WOn w0 vbs w' wb mb (out ++ s.data.toList) bv' seen ∧ WFr wb mb bv bv' w w' :=
  (writeString_c h.wr s (by omega)).mono fun e w' ⟨v, hv, bv', h1, h2⟩ => ⟨v, bv', hv, h.wrote h1 h2, h2⟩
end

def WrOk (w0 : World) (vbs : List Nat) (x : Ex) : Prop :=
  ∀ (w : World) (wb mb : Nat) (out : List UInt8) (bv : Value) (seen : List Nat) (u : Value), WOn w0 vbs w wb mb out bv seen → TRep w (fun _ => True) vbs x u → out.length + 2100 * szE x ≤ 300000040 → seen.length + szE x ≤ 100000 →
    Calls Tryz.prog 109 #[ptrV wb, u] w fun e w' => WPost w0 vbs wb mb out bv w (outS x 0 seen) e w'

structure RowWr (w0 : World) (vbs : List Nat) (w : World) (wb mb : Nat) (out : List UInt8) (bv : Value) (l : List Ex) (r : List UInt8 × List Nat) (gk k : Nat) (out' : List UInt8) (bv' : Value) (sn : List Nat) (wr : World) : Prop where
  le : k ≤ l.length
  gk : gk = l.length - k
  on : WOn w0 vbs wr wb mb out' bv' sn
  fr : WFr wb mb bv bv' w wr
  e1 : out ++ r.1 = out' ++ (rowS (l.drop k) (k == 0) sn).1
  e2 : r.2 = (rowS (l.drop k) (k == 0) sn).2
  b1 : out'.length + 2100 * szL (l.drop k) ≤ 300000000
  b2 : sn.length + szL (l.drop k) ≤ 100000

set_option maxRecDepth 100000 in
set_option maxHeartbeats 4000000 in
theorem inRow_c {w0 : World} {vbs : List Nat} {w : World} {wb mb : Nat} {out : List UInt8} {bv : Value} {seen : List Nat} (l : List Ex) (hA : ∀ x, x ∈ l → WrOk w0 vbs x ∧ short x) {v : Value} {us : List Value} {n1 : Nat}
    (h : WOn w0 vbs w wb mb out bv seen) (hL : TRepL w (fun _ => True) vbs l us) (hown : w.ownsRow n1 164 1 v l.length us) (hb1 : out.length + 2100 * szL l ≤ 300000000) (hb2 : seen.length + szL l ≤ 100000) (hsm : l.length ≤ 100000) :
    Calls Tryz.prog 174 #[ptrV wb, v] w fun e w' => WPost w0 vbs wb mb out bv w (rowS l true seen) e w' := by
  obtain ⟨r, hr⟩ : ∃ r, r = rowS l true seen := ⟨_, rfl⟩
  rw [← hr]
  have hst : RowWr w0 vbs w wb mb out bv l r l.length 0 out bv seen w := ⟨Nat.zero_le _, rfl, h, WFr.refl _ _ _ _, by rw [hr]; rfl, by rw [hr]; rfl, by simpa using hb1, by simpa using hb2⟩
  have HST := hide hst
  have HA := hide hA
  have HL := hide hL
  have HOWN := hide hown
  have HH := hide h
  obtain ⟨ao, cp, hvf⟩ := row_form hown
  subst hvf
  clear hst hA hL hown h hb1 hb2 hr
  unfold ptrV
  go_enter Tryz.func174, Tryz.ntmps174
  go_wp2_with fail
  go_loopg [8] l.length (fun g iv wr => ∃ k out' bv' sn, iv = .int .i64 (k : Nat) ∧ RowWr w0 vbs w wb mb out bv l r g k out' bv' sn wr)
  case atStart => exact ⟨0, out, bv, seen, rfl, HST.out⟩
  case round =>
    obtain ⟨k, out', bv', sn, rfl, hR⟩ := hrel
    have HR := hide hR
    have hgk := hR.gk
    have hkl := hR.le
    clear hR
    by_cases hk : k < l.length
    · obtain ⟨x, hx⟩ : ∃ x, x = l[k] := ⟨_, rfl⟩
      have hdr : l.drop k = x :: l.drop (k + 1) := by rw [hx]; exact List.drop_eq_getElem_cons hk
      have hxm : x ∈ l := by rw [hx]; exact List.getElem_mem hk
      obtain ⟨hxo, hxs⟩ := HA.out x hxm
      have hul := HL.out.len
      have hku : k < us.length := by omega
      have hon := HR.out.on
      have htk : TKeeps (fun _ => True) w wr := HH.out.wr.tkeeps HR.out.fr
      have hrep : TRep wr (fun _ => True) vbs x us[k] := by
        rw [hx]
        exact (HL.out.get k hk hku).frame htk (fun _ h _ => h) (List.prefix_refl _)
      obtain ⟨tx, vx, hxf, _⟩ := hrep.form
      have hcell : ∃ g, ao = some ⟨g, 0, none⟩ ∧ g < wr.heap.size ∧ wr.cell? ⟨g, k, none⟩ = some (.iface tx vx) := by
        rcases (own_tk HOWN.out htk).2 with ⟨_, h0⟩ | ⟨g, cap, cur, e, r1, r2, r3, r4, r5, r6⟩
        · omega
        · injection e with e _
          exact ⟨g, e, (Array.getElem?_eq_some_iff.1 r2).1, rowCell r2 r6 (by rw [← hxf]; exact List.getElem?_eq_getElem hku)⟩
      obtain ⟨g, rfl, hgl, hcg⟩ := hcell
      rw [hxf] at hrep
      have hb1 := HR.out.b1
      have hb2 := HR.out.b2
      have hsz : szL (l.drop k) = szE x + szL (l.drop (k + 1)) := by rw [hdr, szL]
      have hlen := (len_ok _ x (Nat.le_refl _) hxs).1 0 sn (by omega)
      have HX := hide hxo
      have HREP := hide hrep
      have HON := hide hon
      have HXF := hide hx
      have HDR := hide hdr
      clear hx hdr hxm hxo hxs hul hon htk hrep hxf
      by_cases hk0 : k = 0
      · subst hk0
        have hBY := HX.out wr wb mb out' bv' sn (.iface tx vx) HON.out HREP.out (by omega) (by omega)
        have HT := hide hBY
        clear hBY
        unfold ptrV at HT
        go_wp2_with (first | (go_at_call 109; refine HT.out.mono ?_; rintro e w2 ⟨rfl, bv2, h2, f2⟩))
        go_roundg (l.length - (0 + 1))
        case measure => omega
        case rel =>
          refine ⟨0 + 1, _, bv2, _, by go_num, by omega, rfl, h2, HR.out.fr.trans f2, ?_, ?_, ?_, ?_⟩
          · rw [HR.out.e1, HDR.out, rowS]; simp
          · rw [HR.out.e2, HDR.out, rowS]; simp
          · simp only [List.length_append]; omega
          · omega
      · have HB := hide (byte_w HON.out 44 (by have := szE_pos x; omega))
        have HT := hide (fun w1 bv1 (h1 : WOn w0 vbs w1 wb mb (out' ++ [44]) bv1 sn) (f1 : WFr wb mb bv' bv1 wr w1) => HX.out w1 wb mb (out' ++ [44]) bv1 sn (.iface tx vx) h1 (HREP.out.frame (HON.out.wr.tkeeps f1) (fun _ h _ => h) (List.prefix_refl _)) (by simp only [List.length_append, List.length_singleton]; have := szE_pos x; omega) (by omega))
        have hkk : (k : Int) ≠ 0 := by omega
        unfold ptrV at HT HB
        go_wp2_with (first | (go_at_call 173; refine HB.out.mono ?_; rintro e w1 ⟨v1, bv1, rfl, h1, f1⟩) | (go_at_call 109; refine (HT.out _ _ h1 f1).mono ?_; rintro e w2 ⟨rfl, bv2, h2, f2⟩))
        go_roundg (l.length - (k + 1))
        case measure => omega
        case rel =>
          have hf : (k == 0) = false := by simp [hk0]
          have hf1 : (k + 1 == 0) = false := by simp
          refine ⟨k + 1, _, bv2, _, by go_num, by omega, rfl, h2, (HR.out.fr.trans f1).trans f2, ?_, ?_, ?_, ?_⟩
          · rw [HR.out.e1, HDR.out, rowS, hf, hf1]; simp
          · rw [HR.out.e2, HDR.out, rowS, hf, hf1]
          · simp only [List.length_append, List.length_singleton]; omega
          · omega
    · have hkk : k = l.length := by omega
      subst hkk
      go_wp2_with fail
      go_end0
      have e1 := HR.out.e1
      have e2 := HR.out.e2
      rw [List.drop_length, rowS] at e1 e2
      exact WPost.mk' HR.out.on HR.out.fr (by rw [e1]; simp) e2.symm

end Go.Proofs.YtdigbgbmfjggnaaGreatDoor
