import Derived.Test.YtodpkdajbnceoaaGreatDoorPart14
import Derived.Laws.IdiomStrings
import Derived.Test.YtodpkdajbnceoaaGreatDoorPart12
import Derived.Deep.RegionHeld
set_option linter.unusedVariables false
set_option linter.unusedSimpArgs false
namespace Go.Proofs.YtodpkdajbnceoaaGreatDoor
open Go.RowKit

/-! Terms of the program in memory; numbers and variables. -/

mutual
inductive TRep (w : World) (Ok : Nat → Prop) (vbs : List Nat) : Ex → Value → Prop
  | atom (n : ByteArray) : TRep w Ok vbs (.atom n) (.iface 338 (.string n))
  | num (v : Int) : TRep w Ok vbs (.num v) (.iface 339 (.int .i64 v))
  | var (k b : Nat) (hk : vbs[k]? = some b) : TRep w Ok vbs (.var k) (.iface 267 (ptrV b))
  | cmp (n : ByteArray) (args : List Ex) (g ga cap : Nat) (cur : Array Value) (us : List Value) (hg : w.heap[g]? = some (.cells #[.string n, .slice (some ⟨ga, 0, none⟩) args.length cap, .slice none 0 0, .map none] 399 (0, 0)))
      (ho : Ok ga) (ha : w.heap[ga]? = some (.cells cur 185 (0, 0))) (hc : args.length ≤ cap) (hm : cap ≤ maxLen) (hs : cur.size = cap) (hu : cur.toList.take args.length = us) (hr : TRepL w Ok vbs args us) (hl : 0 < args.length) :
      TRep w Ok vbs (.cmp n args) (.iface 342 (ptrV g))
inductive TRepL (w : World) (Ok : Nat → Prop) (vbs : List Nat) : List Ex → List Value → Prop
  | nil : TRepL w Ok vbs [] []
  | cons (x : Ex) (l : List Ex) (u : Value) (us : List Value) : TRep w Ok vbs x u → TRepL w Ok vbs l us → TRepL w Ok vbs (x :: l) (u :: us)
end

/-- what the terms of the old world hang on stays -/
def TKeeps (Ok : Nat → Prop) (w w' : World) : Prop := ∀ (b : Nat) (cs : Array Value) (T : TypeId), (T = 399 ∨ (T = 185 ∧ Ok b)) → w.heap[b]? = some (.cells cs T (0, 0)) → w'.heap[b]? = some (.cells cs T (0, 0))

mutual
theorem TRep.frame {w w' : World} {Ok Ok' : Nat → Prop} {vbs vbs' : List Nat} (hf : TKeeps Ok w w') (ho : ∀ b, Ok b → b < w.heap.size → Ok' b) (hv : vbs <+: vbs') : ∀ {x : Ex} {u : Value}, TRep w Ok vbs x u → TRep w' Ok' vbs' x u
  | _, _, .atom n => .atom n
  | _, _, .num v => .num v
  | _, _, .var k b hk => .var k b (by
      obtain ⟨r, rfl⟩ := hv
      rw [List.getElem?_append_left (List.getElem?_eq_some_iff.1 hk).1]; exact hk)
  | _, _, .cmp n args g ga cap cur us hg hq ha hc hm hs hu hr hl =>
    .cmp n args g ga cap cur us (hf g _ _ (.inl rfl) hg) (ho ga hq (Array.getElem?_eq_some_iff.1 ha).1) (hf ga _ _ (.inr ⟨rfl, hq⟩) ha) hc hm hs hu (TRepL.frame hf ho hv hr) hl
theorem TRepL.frame {w w' : World} {Ok Ok' : Nat → Prop} {vbs vbs' : List Nat} (hf : TKeeps Ok w w') (ho : ∀ b, Ok b → b < w.heap.size → Ok' b) (hv : vbs <+: vbs') : ∀ {l : List Ex} {us : List Value}, TRepL w Ok vbs l us → TRepL w' Ok' vbs' l us
  | _, _, .nil => .nil
  | _, _, .cons x l u us hx hl => .cons x l u us (TRep.frame hf ho hv hx) (TRepL.frame hf ho hv hl)
end

theorem TRep.mono {w : World} {Ok Ok' : Nat → Prop} {vbs : List Nat} {x : Ex} {u : Value} (h : TRep w Ok vbs x u) (ho : ∀ b, Ok b → b < w.heap.size → Ok' b) : TRep w Ok' vbs x u :=
  h.frame (fun _ _ _ _ hb => hb) ho (List.prefix_refl _)

theorem TRepL.snoc {w : World} {Ok : Nat → Prop} {vbs : List Nat} : ∀ {l : List Ex} {us : List Value} {x : Ex} {u : Value}, TRepL w Ok vbs l us → TRep w Ok vbs x u → TRepL w Ok vbs (l ++ [x]) (us ++ [u])
  | _, _, x, u, .nil, h => .cons x [] u [] h .nil
  | _, _, x, u, .cons y l c d hy hl, h => .cons y (l ++ [x]) c (d ++ [u]) hy (TRepL.snoc hl h)

theorem TRepL.len {w : World} {Ok : Nat → Prop} {vbs : List Nat} : ∀ {l : List Ex} {us : List Value}, TRepL w Ok vbs l us → us.length = l.length
  | _, _, .nil => rfl
  | _, _, .cons x l u us hx hl => by simp [TRepL.len hl]

theorem TRep.form {w : World} {Ok : Nat → Prop} {vbs : List Nat} {x : Ex} {u : Value} (h : TRep w Ok vbs x u) : ∃ t v, u = .iface t v ∧ u.oneCell' = true := by
  cases h <;> exact ⟨_, _, rfl, rfl⟩

theorem conv_c (s : ByteArray) (w : World) : ∃ (C : Array Value) (cap : Nat) (fz : Nat × Nat), (∀ k (hk : k < s.size), C[k]? = some (.int .u8 s[k].toNat)) ∧
    (convert 9 115 (.string s)).run Tryz.prog w = .ok (.slice (some ⟨w.heap.size, 0, none⟩) s.size cap) (w.alloc (.cells C 5 fz)).drew := by
  refine ⟨_, _, _, fun k hk => ?_, run_bytes_of_string (P := Tryz.prog) w 9 115 5 s Tryz.underlying9 Tryz.underlying115 Tryz.underlying5⟩
  unfold bytesRow
  rw [Array.getElem?_append_left (by simpa using hk)]
  have : k < s.data.size := hk
  simp
  exact ⟨s[k], Array.getElem?_eq_getElem this, rfl⟩

section
variable {w : World} {bp : Nat} {toks : List Tok} {lv vv : Value} {i : Nat} {d : Int} {vars : List ByteArray} {vbs : List Nat}

theorem RIn.tkeeps {w' : World} {vv' : Value} {Ok : Nat → Prop} (h : RIn w bp toks lv vv i d vars vbs) (hf : Fr bp vv vv' w w') : TKeeps Ok w w' := by
  intro b cs T hT0 hb
  have hT : T = 399 ∨ T = 185 := hT0.elim .inl (fun h => .inr h.1)
  clear hT0
  rw [hf.block b (Array.getElem?_eq_some_iff.1 hb).1 ?_ ?_]
  · exact hb
  · rintro rfl
    rw [h.cells] at hb
    injection hb with hb; injection hb with _ hb
    rcases hT with rfl | rfl <;> cases hb
  · intro hv
    rcases h.vrow.2 with ⟨hl, _⟩ | ⟨g, cap, cur, rfl, _, r2, _⟩
    · rw [hl] at hv; cases hv
    · cases hv
      rw [r2] at hb
      injection hb with hb; injection hb with _ hb
      rcases hT with rfl | rfl <;> cases hb

set_option maxRecDepth 100000 in
set_option maxHeartbeats 800000 in
theorem number_c (h : RIn w bp toks lv vv i d vars vbs) (hg : GoodToks toks) (ht : TTs toks) (fac : Int) (hfac : fac = 1 ∨ fac = -1) :
    Calls Tryz.prog 276 #[ptrV bp, .int .i64 fac] w fun e w' =>
      ((tk toks i).k = 110 → e = .returned (.iface 339 (.int .i64 (fac * digVal (tk toks i).t.data.toList))) ∧ RIn w' bp toks lv vv (i + 1) d vars vbs ∧ Fr bp vv vv w w') ∧
      ((tk toks i).k ≠ 110 → RFault 2 (tk toks i).a bp lv vv d w e w') := by
  have HH := hide h
  have HN := hide (fun w' (h' : RIn w' bp toks lv vv i d vars vbs) => now_c h' hg)
  have HT := hide (fun w' (h' : RIn w' bp toks lv vv i d vars vbs) => take_c h' hg ht)
  have HM := hide (fun w' (h' : RIn w' bp toks lv vv i d vars vbs) => misplaced_c h' hg)
  have hkn := (ht i).kC_num
  have hgn := hg.num i
  have hst : stepI toks i = if (tk toks i).k = 101 then i else i + 1 := rfl
  have ff0 := tok_f0
  have ff1 := tok_f1
  have ff2 := tok_f2
  unfold ptrV tokVC tokB at *
  obtain ⟨t, hT⟩ : ∃ t, t = tk toks i := ⟨_, rfl⟩
  rw [← hT] at HN HT HM hkn hgn hst ⊢
  clear hT h
  obtain ⟨K, hK⟩ : ∃ K, K = kC t.k := ⟨_, rfl⟩
  rw [← hK] at hkn HN HT
  clear hK
  by_cases hk : t.k = 110
  · have h2 : K = 2 := hkn.2 hk
    obtain ⟨hsz, hdig⟩ := hgn hk
    rw [if_neg (by rw [hk]; decide)] at hst
    rw [hst] at HT
    have HK := hide hk
    clear hkn hgn hk hst
    go_enter Tryz.func276, Tryz.ntmps276
    go_wp2_with (first | (go_at_call 156; refine (HN.out _ HH.out).mono ?_; rintro e w1 ⟨rfl, rfl⟩) | (go_at_call 225; refine (HT.out _ (HH.out.alloc _).drew).mono ?_; rintro e w2 ⟨rfl, hR, hF⟩; obtain ⟨C, cap, fz, hC, hcv⟩ := conv_c t.t w2))
    go_loop [5, 20] (fun v j => ∃ k : Nat, k ≤ t.t.size ∧ j = .int .i64 k ∧ v = .int .i64 (digVal (t.t.data.toList.take k))) (fun _ j => t.t.size - (intOf j).toNat)
    case atStart => exact ⟨0, Nat.zero_le _, rfl, rfl⟩
    case round =>
      obtain ⟨k, hk, rfl, rfl⟩ := hrel
      have hb := digVal_bound (t.t.data.toList.take k) (fun c hc => hdig c (List.mem_of_mem_take hc))
      have hp := pow_le9 (t.t.data.toList.take k).length (by have := List.length_take_le k t.t.data.toList; omega)
      have hb1 : digVal (t.t.data.toList.take k) < 1000000000 := by omega
      obtain ⟨hb0, _⟩ := hb
      by_cases hlt : k < t.t.size
      · have hCk : (w2.alloc (.cells C 5 fz)).cell? ⟨w2.heap.size, k, none⟩ = some (.int .u8 t.t[k].toNat) := by rw [cell_of_row _ _ _ C _ fz (heap_alloc_new w2 _)]; exact hC k hlt
        have hsn := digVal_snoc (t.t.data.toList.take k) t.t[k]
        have hts := take_snoc t.t k hlt
        have hc := hdig t.t[k] (by show t.t.data[k] ∈ _; simp)
        obtain ⟨hc1, hc2⟩ := hc
        have HS : Hid (digVal (t.t.data.toList.take (k + 1)) = 10 * digVal (t.t.data.toList.take k) + ((t.t[k].toNat : Int) - 48)) := by rw [hts]; exact hsn
        clear hsn hts hp hC
        obtain ⟨X, hX⟩ : ∃ X, X = digVal (t.t.data.toList.take k) := ⟨_, rfl⟩
        rw [← hX] at hb0 hb1 HS ⊢
        clear hX
        obtain ⟨Y, hY⟩ : ∃ Y, Y = t.t[k].toNat := ⟨_, rfl⟩
        rw [← hY] at hc1 hc2 HS hCk
        clear hY
        go_wp2
        go_round
        case rel => exact ⟨k + 1, by omega, by go_num, by rw [HS.out]; go_num⟩
        case measure => simp [intOf]; omega
      · have HE : Hid (t.t.data.toList.take k = t.t.data.toList) := List.take_of_length_le (by simp; omega)
        rw [HE.out] at hb0 hb1 ⊢
        clear hp
        rcases hfac with rfl | rfl
        · go_wp2
          go_ret
          exact ⟨fun _ => ⟨rfl, (hR.alloc _).drew, ((((Fr.refl _ _ _).alloc _).drew.trans hF).alloc _).drew⟩, fun n => absurd HK.out n⟩
        · go_wp2
          go_ret
          exact ⟨fun _ => ⟨rfl, (hR.alloc _).drew, ((((Fr.refl _ _ _).alloc _).drew.trans hF).alloc _).drew⟩, fun n => absurd HK.out n⟩
  · have h2 : ¬ K = 2 := fun e => hk (hkn.1 e)
    have HK := hide hk
    clear hkn hgn hk hst
    go_enter Tryz.func276, Tryz.ntmps276
    go_wp2_with (first | (go_at_call 156; refine (HN.out _ HH.out).mono ?_; rintro e w1 ⟨rfl, rfl⟩) | (go_at_call 157; refine (HM.out _ (HH.out.alloc _).drew).mono ?_; rintro e w2 ⟨g, hg2, rfl, hcell, hB⟩))
    exact ⟨rfl, fun n => absurd n HK.out, fun _ => ((HH.out.alloc _).drew.faulted hg2 hcell hB).after ((Fr.refl _ _ _).alloc _).drew⟩

end

end Go.Proofs.YtodpkdajbnceoaaGreatDoor

namespace Go.Proofs.YtodpkdajbnceoaaGreatDoor
open Go.RowKit

/-! The program's variables. -/

theorem Tryz.infoPV : (Tryz.prog.info? 267).map (fun i => (i.zero, i.size, i.bytes)) = some (some (.pointer none), 1, 8) := by kernel_rfl
theorem Tryz.underlyingPVs : Tryz.prog.underlying 226 = some (.slice 267) := by kernel_rfl

section
variable {w : World} {bp : Nat} {toks : List Tok} {lv vv : Value} {i : Nat} {d : Int} {vars : List ByteArray} {vbs : List Nat}

/-- what the reader's rules answer -/
def RPost (toks : List Tok) (bp : Nat) (lv vv : Value) (d : Int) (vbs : List Nat) (w : World) (r : R Ex) (e : Ending) (w' : World) : Prop :=
  match r with
  | .error (er, a) => RFault er a bp lv vv d w e w'
  | .ok (x, st) => ∃ (u vv' : Value) (vbs' : List Nat), e = .returned u ∧ TRep w' (fun b => w.heap.size ≤ b) vbs' x u ∧ RIn w' bp toks lv vv' st.1 d st.2 vbs' ∧ vbs <+: vbs' ∧ Fr bp vv vv' w w'

theorem RPost.okI {w' : World} {r : R Ex} {x : Ex} {st : St} {u vv' : Value} {vbs' : List Nat} (hr : r = .ok (x, st)) (h1 : TRep w' (fun b => w.heap.size ≤ b) vbs' x u) (h2 : RIn w' bp toks lv vv' st.1 d st.2 vbs') (h3 : vbs <+: vbs') (h4 : Fr bp vv vv' w w') :
    RPost toks bp lv vv d vbs w r (.returned u) w' := by subst hr; exact ⟨u, vv', vbs', rfl, h1, h2, h3, h4⟩
theorem RPost.errI {w' : World} {r : R Ex} {er : Int} {a : Nat} {e : Ending} (hr : r = .error (er, a)) (h : RFault er a bp lv vv d w e w') : RPost toks bp lv vv d vbs w r e w' := by subst hr; exact h

theorem varOf_hit {t : Tok} {k j : Nat} (h : findVar vars t.t = some k) : varOf t (j, vars) = .ok (.var k, (j, vars)) := by unfold varOf; simp only [h]
theorem varOf_full {t : Tok} {j : Nat} (h : findVar vars t.t = none) (h12 : vars.length = 12) : varOf t (j, vars) = .error (4, t.a) := by unfold varOf; simp only [h, h12, if_true]
theorem varOf_new {t : Tok} {j : Nat} (h : findVar vars t.t = none) (h12 : ¬ vars.length = 12) : varOf t (j, vars) = .ok (.var vars.length, (j, vars ++ [t.t])) := by unfold varOf; simp only [h, h12, if_false]

theorem grown_blk {wc w2 : World} {b : Nat} {vv : Value} {o : Obj} {x : Obj} (h : wc.heap[b]? = some x) (hg : (wc.alloc o).grownBy w2 vv.ownBlock) (hv : vv.ownBlock ≠ some b) : w2.heap[b]? = some x := by
  have hlt := (Array.getElem?_eq_some_iff.1 h).1
  rw [hg.block b (by simp; omega) (fun e => hv e.symm), Below.heap_alloc _ _ _ hlt]; exact h

theorem RIn.vv_ne (h : RIn w bp toks lv vv i d vars vbs) {b : Nat} {cs : Array Value} (hb : w.heap[b]? = some (.cells cs 269 (0, 0))) : vv.ownBlock ≠ some b := by
  intro e
  rcases h.vrow.2 with ⟨hl, _⟩ | ⟨g, cap, cur, rfl, _, r2, _⟩
  · rw [hl] at e; cases e
  · cases e
    rw [r2] at hb
    injection hb with hb; injection hb with _ hb; cases hb

/-- the reader behind an append to its variables -/
theorem RIn.grow {w2 : World} {v' : Value} {o : Obj} {t : ByteArray} {b : Nat} (h : RIn w bp toks lv vv i d vars vbs) (hvb : w.heap[b]? = some (.cells #[.string t, .int .i64 vars.length, .nilIface, .int .i64 0] 269 (0, 0))) (hnew : b ∉ vbs)
    (hg : (w.alloc o).grownBy w2 vv.ownBlock) (hn : ∀ b, v'.ownBlock = some b → vv.ownBlock = some b ∨ (w.alloc o).heap.size ≤ b)
    (ho : w2.ownsRow 0 267 1 v' (vbs.length + 1) (vbs.map ptrV ++ [ptrV b])) (hl : vars.length < 12) :
    RIn (w2.setCell ⟨bp, 3, none⟩ v') bp toks lv v' i d (vars ++ [t]) (vbs ++ [b]) ∧ Fr bp vv v' w (w2.setCell ⟨bp, 3, none⟩ v') := by
  have hne : ∀ b, b ≠ bp → (w2.setCell ⟨bp, 3, none⟩ v').heap[b]? = w2.heap[b]? := fun b hb => Below.heap_setCell _ _ _ _ hb
  have hc := grown_blk h.cells hg h.vb
  have hsz : w.heap.size < (w.alloc o).heap.size := by simp
  have hvb' : v'.ownBlock ≠ some bp := fun e => (hn bp e).elim h.vb (fun q => by have := h.lt_size; omega)
  have hblk : ∀ (c : Nat) (n : Array Value), w.heap[c]? = some (.cells n 269 (0, 0)) → (w2.setCell ⟨bp, 3, none⟩ v').heap[c]? = some (.cells n 269 (0, 0)) := fun c n hcn => by
    rw [hne c (fun e => by rw [e, h.cells] at hcn; cases hcn)]
    exact grown_blk hcn hg (h.vv_ne hcn)
  refine ⟨⟨?_, ?_, ?_, h.lb, hvb', ?_, h.lt, by simp [h.vl], by simp; omega, ?_, ?_⟩, ?_⟩
  · rw [heap_setCell_same hc]; rfl
  · refine ownsRow_keep (w := w) h.l fun b e => ?_
    rw [hne b (fun q => h.lb (by rw [← q]; exact e))]
    have hlt := (h.l.lt b e).2
    rw [hg.block b (by simp; omega) (fun q => ?_), Below.heap_alloc _ _ _ hlt]
    rcases h.lvb with x | x
    · rw [x] at q; cases q
    · exact x (by rw [e, ← q])
  · have h2 : w2.ownsRow 0 267 1 v' (vbs ++ [b]).length ((vbs ++ [b]).map ptrV) := by simpa using ho
    exact ownsRow_keep h2 fun c e => hne c (fun q => hvb' (by rw [← q]; exact e))
  · by_cases hn0 : v'.ownBlock = none
    · exact .inl hn0
    · right
      intro e
      cases hb : v'.ownBlock with
      | none => exact hn0 hb
      | some b =>
        rcases hn b hb with q | q
        · rcases h.lvb with x | x
          · rw [x] at q; cases q
          · exact x (by rw [e, hb, q])
        · have := h.blt b (.inr (.inl (by rw [e, hb]))); omega
  · intro k c hk
    by_cases hlt : k < vbs.length
    · rw [List.getElem?_append_left hlt] at hk
      obtain ⟨n, h1, h2⟩ := h.vblk k c hk
      exact ⟨n, by rw [List.getElem?_append_left (by rw [← h.vl]; exact hlt)]; exact h1, hblk c _ h2⟩
    · have hk2 : k = vbs.length := by
        have := (List.getElem?_eq_some_iff.1 hk).1
        simp at this; omega
      subst hk2
      rw [List.getElem?_append_right (Nat.le_refl _)] at hk
      simp at hk
      subst hk
      exact ⟨t, by rw [h.vl, List.getElem?_append_right (Nat.le_refl _)]; simp, by rw [h.vl]; exact hblk b _ hvb⟩
  · rw [List.nodup_append]
    exact ⟨h.nodup, by simp, by intro a ha c hc; simp at hc; subst hc; exact fun e => hnew (by rw [← e]; exact ha)⟩
  · refine ⟨hg.os, hg.tape, hg.output, by have := hg.size; simp [World.setCell] at this ⊢; omega, fun c hb1 h1 h2 => ?_, fun b hb1 => (hn b hb1).elim .inl (fun q => .inr (by omega))⟩
    rw [hne c h1, hg.block c (by simp; omega) (fun e => h2 e.symm), Below.heap_alloc _ _ _ hb1]

theorem pvCell (h : RIn w bp toks lv vv i d vars vbs) (k : Nat) (hk : k < vars.length) :
    ∃ g cap b, vv = .slice (some ⟨g, 0, none⟩) vbs.length cap ∧ vbs[k]? = some b ∧ w.cell? ⟨g, k, none⟩ = some (.pointer (some ⟨b, 0, none⟩)) ∧ w.cell? ⟨b, 0, none⟩ = some (.string vars[k]) ∧ vbs.length ≤ cap ∧ cap ≤ maxLen := by
  have hk' : k < vbs.length := by rw [h.vl]; exact hk
  rcases h.vrow.2 with ⟨_, h0⟩ | ⟨g, cap, cur, rfl, _, hgg, hcap, hmx, hsz, htk⟩
  · omega
  · obtain ⟨n, h1, h2⟩ := h.vblk k _ (List.getElem?_eq_getElem hk')
    refine ⟨g, cap, vbs[k], rfl, List.getElem?_eq_getElem hk', rowCell hgg htk (by simp [hk', ptrV]), ?_, hcap, hmx⟩
    rw [cell_of_block h2]
    rw [List.getElem?_eq_getElem hk] at h1
    cases h1; rfl

theorem tok_box {w1 wr : World} {t : Tok} (hb : Below (w1.alloc (tokB t)).heap.size (w1.alloc (tokB t)) wr) :
    wr.cell? ⟨w1.heap.size, 1, none⟩ = some (.string t.t) ∧ wr.cell? ⟨w1.heap.size, 2, none⟩ = some (.int .i64 t.a) := by
  have h1 := boxed hb
  exact ⟨by rw [cell_of_block h1]; rfl, by rw [cell_of_block h1]; rfl⟩

set_option maxRecDepth 100000 in
set_option maxHeartbeats 1000000 in
theorem variable_c (h : RIn w bp toks lv vv i d vars vbs) (hg : GoodToks toks) (ht : TTs toks) (hk118 : (tk toks i).k = 118) :
    Calls Tryz.prog 277 #[ptrV bp] w fun e w' => RPost toks bp lv vv d vbs w (varOf (tk toks i) (i + 1, vars)) e w' := by
  have HT := hide (take_c h hg ht)
  have HF := hide newFault_c
  have hst : stepI toks i = i + 1 := by unfold stepI; rw [if_neg (by rw [hk118]; decide)]
  rw [hst] at HT
  have ff0 := tok_f0
  have ff1 := tok_f1
  have ff2 := tok_f2
  obtain ⟨t, hT⟩ : ∃ t, t = tk toks i := ⟨_, rfl⟩
  rw [← hT] at HT ⊢
  clear hT h hst hk118
  unfold ptrV tokVC at *
  go_enter Tryz.func277, Tryz.ntmps277
  go_upto_block 0 with (first | (go_at_call 225; refine HT.out.mono ?_; rintro e w1 ⟨rfl, hR, hF⟩; have c3 := hR.c3; have hz1 := hR.lt_size; obtain ⟨ao, cp, hvf⟩ := row_form hR.vrow))
  obtain ⟨W0, hW0⟩ : ∃ W0, W0 = w1.alloc (tokB t) := ⟨_, rfl⟩
  unfold tokB at hW0
  rw [← hW0]
  have hR0 : RIn W0 bp toks lv vv (i + 1) d vars vbs := by rw [hW0]; exact hR.alloc _
  have hF0 : Fr bp vv vv w W0 := by rw [hW0]; exact hF.alloc _
  have HW0 := hide hW0
  clear hW0 c3
  go_wp2_with fail
  go_loopg [14] vars.length (fun g j wr => ∃ k : Nat, k + g = vars.length ∧ j = .int .i64 k ∧ (∀ j (hj : j < vars.length), j < k → ¬ (vars[j] = t.t ∧ t.t ≠ B [95])) ∧ Below W0.heap.size W0 wr)
  case atStart => exact ⟨0, by omega, rfl, fun _ _ h => absurd h (by omega), Below.refl _ _⟩
  case round =>
    obtain ⟨k, hkg, rfl, hno, hb⟩ := hrel
    have hP : RIn wr bp toks lv vv (i + 1) d vars vbs := hR0.below hb
    obtain ⟨e1, e2⟩ : wr.cell? ⟨w1.heap.size, 1, none⟩ = some (.string t.t) ∧ wr.cell? ⟨w1.heap.size, 2, none⟩ = some (.int .i64 t.a) := by
      rw [HW0.out] at hb; exact tok_box (t := t) hb
    have HNO := hide hno
    clear hno
    have hvl1 := Nat.le_of_eq hP.vl
    have hvl2 := Nat.le_of_eq hP.vl.symm
    have hv12 := hP.v12
    by_cases hlt : k < vars.length
    · obtain ⟨g, cap, b, hvv, hbk, hc1, hc2, hcap, hmx⟩ := pvCell hP k hlt
      have HBK := hide hbk
      clear hbk
      rw [hvf] at hvv
      cases hvv
      cases heq : (vars[k].toList == t.t.toList) with
      | true =>
        cases hus : (t.t.toList == [95]) with
        | false =>
          have HFd : Hid (findVar vars t.t = some k) := findVar_hit hlt (fun j hj hjk e => HNO.out j hj hjk ⟨e, us_ne hus⟩) (us_ne hus) (BA_ext (by simpa using heq))
          go_wp2_with fail
          go_quiet (fail)
          go_wp2_with fail
          go_ret
          have hbw := below_drewN hb nq
          exact .okI (varOf_hit HFd.out) (.var k b HBK.out) (hR0.below hbw) (List.prefix_refl _) (hF0.trans (Fr.of_below hbw))
        | true =>
          have HUS := hide (us_eq hus)
          go_wp2_with fail
          go_quiet (fail)
          go_wp2_with fail
          go_roundg (gk - 1)
          case measure => omega
          case rel =>
            refine ⟨k + 1, by omega, by go_num, fun j hj hjk => ?_, below_drewN hb nq⟩
            exact fun h => h.2 HUS.out
      | false =>
        have HNE : Hid (¬ vars[k] = t.t) := by intro e; rw [e] at heq; simp at heq
        go_wp2_with fail
        go_quiet (fail)
        go_wp2_with fail
        go_roundg (gk - 1)
        case measure => omega
        case rel =>
          refine ⟨k + 1, by omega, by go_num, fun j hj hjk => ?_, below_drewN hb nq⟩
          by_cases ejk : j = k
          · subst ejk; exact fun h => HNE.out h.1
          · exact HNO.out j hj (by omega)
    · have HFn : Hid (findVar vars t.t = none) := findVar_none (by
        by_cases hu : t.t = B [95]
        · exact .inl hu
        · exact .inr fun j hj e => HNO.out j hj (by omega) ⟨e, hu⟩)
      have c3 := hP.c3
      have z3 := hP.fz 3
      have hz := hP.lt_size
      have hc := hP.cells
      have HC := hide hc
      have hv12 := hP.v12
      have hrow := hP.vrow
      clear hc
      by_cases h12 : vars.length = 12
      · rw [hvf] at c3
        go_wp2_with (first | (go_at_call 154; refine (HF.out _ _ _).mono ?_; rintro e w2 ⟨g, hg2, rfl, hcell, hB⟩))
        exact ⟨rfl, .errI (varOf_full HFn.out h12) ((hP.faulted hg2 hcell hB).after (hF0.trans (Fr.of_below hb)))⟩
      · obtain ⟨i0, hi, hz0, hz1', hz2⟩ := info_parts Tryz.infoPV
        subst hvf
        have c3' : ∀ o, (wr.alloc o).cell? ⟨bp, 3, none⟩ = some (.slice ao vbs.length cp) := fun o => (hP.alloc o).c3
        have e1' : ∀ o, (wr.alloc o).cell? ⟨w1.heap.size, 1, none⟩ = some (.string t.t) := fun o => by
          rw [World.cell?_alloc_past _ _ _ (World.block_lt_of_cell? _ _ e1)]; exact e1
        go_wp2_with fail
        go_region
        go_wp2_with (first | (at_builtin; go_must (refine wpList_append_own2 rfl _ _ 226 rfl 0 267 i0 (.pointer none) 1 8 Tryz.underlyingPVs hi hz0 hz1' hz2 rfl (by decide) (.slice ao vbs.length cp) _ _ rfl (ownsRow_keep ((hrow.alloc (.cells #[.string t.t, .int .i64 vbs.length, .nilIface, .int .i64 0] 269)).alloc (.cells #[.pointer (some ⟨wr.heap.size, 0, none⟩)] 267)) (fun _ _ => rfl)) _ 1 1 [.pointer (some ⟨wr.heap.size, 0, none⟩)] rfl rfl ?c1 ?c2 ?c3 ?c4 ?c5 ?_)))
        case c1 => have := cell_one_new (wr.alloc (.cells #[.string t.t, .int .i64 vbs.length, .nilIface, .int .i64 0] 269)).drew (.pointer (some ⟨wr.heap.size, 0, none⟩)) 267; rwa [show (wr.alloc (.cells #[.string t.t, .int .i64 vbs.length, .nilIface, .int .i64 0] 269)).drew.heap.size = wr.heap.size + 1 from World.size_alloc _ _] at this
        case c2 => intro u hu; simp at hu; subst hu; rfl
        case c3 => unfold maxLen; omega
        case c4 => omega
        case c5 => omega
        intro v' w2 ho hgr hnw
        have hPv := (hP.alloc (.cells #[.string t.t, .int .i64 vbs.length, .nilIface, .int .i64 0] 269)).drew
        have hvb : (wr.alloc (.cells #[.string t.t, .int .i64 vbs.length, .nilIface, .int .i64 0] 269)).drew.heap[wr.heap.size]? = _ := heap_alloc_new wr (.cells #[.string t.t, .int .i64 vbs.length, .nilIface, .int .i64 0] 269)
        have hnew : wr.heap.size ∉ vbs := fun m => absurd (hP.vb_ne m).2 (Nat.lt_irrefl _)
        have hgr' : ((wr.alloc (.cells #[.string t.t, .int .i64 vbs.length, .nilIface, .int .i64 0] 269)).drew.alloc (.cells #[.pointer (some ⟨wr.heap.size, 0, none⟩)] 267)).grownBy w2 (Value.slice ao vbs.length cp).ownBlock := hgr
        have hcb := grown_blk hPv.cells hgr' hPv.vb
        have zc : w2.cell? ⟨bp, 3, none⟩ = some (.slice ao vbs.length cp) := by rw [cell_of_block hcb]; rfl
        have zf := fz_of hcb 3
        have HGR := hide (hPv.grow (t := t.t) (v' := v') (by rw [hvb, hP.vl]) hnew hgr' (by simpa using hnw) ho (by omega))
        have hlen : vbs[vars.length]? = none := List.getElem?_eq_none (by omega)
        obtain ⟨ao', cap', rfl⟩ := row_form ho
        clear hcb hvb hPv hgr hgr' hnw ho
        go_wp2_with fail
        go_ret
        obtain ⟨hRn, hFn⟩ := HGR.out
        refine .okI (varOf_new HFn.out h12) (.var vars.length wr.heap.size ?_) hRn ⟨_, rfl⟩ (hF0.trans ((Fr.of_below hb).trans ((Fr.of_below (((Below.refl _ _).alloc (Nat.le_refl _) _).drew)).trans hFn)))
        rw [List.getElem?_append_right (by omega)]
        have : vars.length - vbs.length = 0 := by omega
        rw [this]; rfl

end

end Go.Proofs.YtodpkdajbnceoaaGreatDoor

namespace Go.Proofs.YtodpkdajbnceoaaGreatDoor
open Go.RowKit

/-! Operations: parts with signs of one strength between. -/

theorem wp_scope_lab {P : Program} {a : Act} {w : World} {Q : Exit → Act → World → Prop} {x rest : Code} (l : Nat) (J : Act → World → Prop) (μ : Act → World → Nat)
    (hf : findLabel (x.seq ((Code.label l).seq rest)) l = some (Code.skip.seq rest))
    (first : x.wp P (Exit.then J (Exit.noGoto Q)) a w)
    (pass : ∀ a w, J a w → rest.wp P (Exit.jump l (fun a' w' => J a' w' ∧ μ a' w' < μ a w) Q) a w) : (Code.scope (x.seq ((Code.label l).seq rest))).wp P Q a w := by
  refine wp_scope_jumps l J μ hf ?_ (fun a w h => wp_seq (wp_skip (pass a w h)))
  refine wp_seq (wp_mono first fun e a w h => ?_)
  cases e with
  | normal =>
    refine wp_seq (wp_label ?_)
    refine wp_mono (pass a w h) fun e a w h => ?_
    cases e <;> first | exact h | exact ⟨h.1, h.2.1⟩
  | goto l' => exact h.elim
  | ret => exact h
  | exit id => exact h
  | panic c => exact h
  | outgrown => exact h

def posOf (w : World) (bp : Nat) : Nat := match w.cell? ⟨bp, 1, none⟩ with | some (.int _ n) => n.toNat | _ => 0

theorem posOf_eq {w : World} {bp : Nat} {toks : List Tok} {lv vv : Value} {i : Nat} {d : Int} {vars : List ByteArray} {vbs : List Nat} (h : RIn w bp toks lv vv i d vars vbs) : posOf w bp = i := by
  unfold posOf; rw [h.c1]; simp

/-- a rule of the reader reads what the grammar says, d deep -/
def RReads (fn : Nat) (toks : List Tok) (d : Int) (r : St → R Ex) : Prop :=
  ∀ (w : World) (bp : Nat) (lv vv : Value) (st : St) (vbs : List Nat), RIn w bp toks lv vv st.1 d st.2 vbs →
    Calls Tryz.prog fn #[ptrV bp] w fun e w' => RPost toks bp lv vv d vbs w (r st) e w'

theorem prim_enter (args : Array Value) (w : World) : (callFunc 226 args).run Tryz.prog w = .ok (.enter 226 args) w := by simp [go_sem]
theorem product_enter (args : Array Value) (w : World) : (callFunc 181 args).run Tryz.prog w = .ok (.enter 181 args) w := by simp [go_sem]

theorem tkeeps_below {w w' : World} {Ok : Nat → Prop} (h : Below w.heap.size w w') : TKeeps Ok w w' := fun b _ _ _ hb => by
  rw [h.block b (Array.getElem?_eq_some_iff.1 hb).1]; exact hb

theorem TRep.two {w : World} {Ok : Nat → Prop} {vbs : List Nat} {x y : Ex} {u u2 : Value} (n : ByteArray) (hx : TRep w Ok vbs x u) (hy : TRep w Ok vbs y u2) (ho : Ok w.heap.size) :
    TRep ((w.alloc (.cells #[u, u2] 185)).alloc (.cells #[.string n, .slice (some ⟨w.heap.size, 0, none⟩) 2 2, .slice none 0 0, .map none] 399)) Ok vbs (.cmp n [x, y]) (.iface 342 (ptrV (w.heap.size + 1))) := by
  have hB : Below w.heap.size w ((w.alloc (.cells #[u, u2] 185)).alloc (.cells #[.string n, .slice (some ⟨w.heap.size, 0, none⟩) 2 2, .slice none 0 0, .map none] 399)) := ((Below.refl _ _).alloc (Nat.le_refl _) _).alloc (by simp) _
  have hk := tkeeps_below (Ok := Ok) hB
  refine .cmp n [x, y] (w.heap.size + 1) w.heap.size 2 #[u, u2] [u, u2] ?_ ho ?_ (by simp) (by unfold maxLen; omega) rfl rfl (.cons _ _ _ _ (hx.frame hk (fun _ h _ => h) (List.prefix_refl _)) (.cons _ _ _ _ (hy.frame hk (fun _ h _ => h) (List.prefix_refl _)) .nil)) (by simp)
  · have := heap_alloc_new (w.alloc (.cells #[u, u2] 185)) (.cells #[.string n, .slice (some ⟨w.heap.size, 0, none⟩) 2 2, .slice none 0 0, .map none] 399)
    rwa [World.size_alloc] at this
  · rw [Below.heap_alloc _ _ _ (by simp)]; exact heap_alloc_new w _

theorem cell_alloc1 {w : World} {p : Addr} {u : Value} (h : w.cell? p = some u) : ∀ o, (w.alloc o).cell? p = some u := fun o => by
  rw [World.cell?_alloc_lt _ _ _ (World.block_lt_of_cell? _ _ h)]; exact h

theorem ops_fuel {toks : List Tok} {part : St → R Ex} {isOp : Tok → Bool} {f : Nat} {x : Ex} {st : St} (h : isOp (tk toks st.1) = false) : opsLoop toks part isOp f x st = .ok (x, st) := by
  cases f with
  | zero => rfl
  | succ f => rw [opsLoop, if_neg (by simp [h])]

structure OpsAt (toks : List Tok) (part : St → R Ex) (isOp : Tok → Bool) (total : R Ex) (bp : Nat) (lv vv : Value) (d : Int) (vbs : List Nat) (w0 : World) (u : Value) (w : World) (x : Ex) (st1 : St) (vv1 : Value) (vbs1 : List Nat) (f : Nat) : Prop where
  rep : TRep w (fun b => w0.heap.size ≤ b) vbs1 x u
  rin : RIn w bp toks lv vv1 st1.1 d st1.2 vbs1
  pre : vbs <+: vbs1
  fr : Fr bp vv vv1 w0 w
  fuel : toks.length - st1.1 ≤ f
  eq : opsLoop toks part isOp f x st1 = total

set_option maxRecDepth 100000 in
set_option maxHeartbeats 2000000 in
theorem ops_c {toks : List Tok} {d : Int} (hg : GoodToks toks) (ht : TTs toks) (fp : Nat) (part : St → R Ex) (isOp : Tok → Bool) (str : Int) (hop : ∀ i, isOp (tk toks i) = decide (ssS (tk toks i).t = str)) (hpo : PartOk toks part)
    (hs3 : str = 1 ∨ str = 2) (hcf : ∀ args w, (callFunc fp args).run Tryz.prog w = .ok (.enter fp args) w) (HP : RReads fp toks d part) (w : World) (bp : Nat) (lv vv : Value) (st : St) (vbs : List Nat) (h : RIn w bp toks lv vv st.1 d st.2 vbs) :
    Calls Tryz.prog 180 #[ptrV bp, .int .i64 str, .func (.func fp) #[ptrV bp] #[]] w fun e w' =>
      RPost toks bp lv vv d vbs w (match part st with | .error e => .error e | .ok (x, st') => opsLoop toks part isOp toks.length x st') e w' := by
  have HP' := hide HP
  cases hp : part st with
  | error p =>
    obtain ⟨er, a⟩ := p
    have HC : Hid (Calls Tryz.prog fp #[ptrV bp] w fun e w' => RFault er a bp lv vv d w e w') := (HP w bp lv vv st vbs h).mono fun e w' h => by rw [hp] at h; exact h
    unfold ptrV at *
    go_enter Tryz.func180, Tryz.ntmps180
    go_wp2
    refine wp_scope_lab 0 (fun _ _ => False) (fun _ _ => 0) ?hf ?_ (fun _ _ h => h.elim)
    case hf => rfl
    go_wp2
    refine HC.out.mono ?_
    rintro e w1 hF
    have hF' := hF
    obtain ⟨g, vv', i', h1, rfl, h3⟩ := hF
    exact ⟨rfl, hF'⟩
  | ok p =>
    obtain ⟨x0, st0⟩ := p
    have HC : Hid (Calls Tryz.prog fp #[ptrV bp] w fun e w' => ∃ (u vv' : Value) (vbs' : List Nat), e = .returned u ∧ TRep w' (fun b => w.heap.size ≤ b) vbs' x0 u ∧ RIn w' bp toks lv vv' st0.1 d st0.2 vbs' ∧ vbs <+: vbs' ∧ Fr bp vv vv' w w') := (HP w bp lv vv st vbs h).mono fun e w' h => by rw [hp] at h; exact h
    obtain ⟨total, htot⟩ : ∃ total, total = opsLoop toks part isOp toks.length x0 st0 := ⟨_, rfl⟩
    show Calls Tryz.prog 180 _ w fun e w' => RPost toks bp lv vv d vbs w (opsLoop toks part isOp toks.length x0 st0) e w'
    rw [← htot]
    have HTOT := hide htot.symm
    clear htot hp
    have HSS := hide signStrength_c
    have hgp := hg
    have hsm := hg.small
    unfold ptrV at *
    go_enter Tryz.func180, Tryz.ntmps180
    go_wp2
    refine wp_scope_lab 0 (fun a w1 => ∃ (u : Value) (x : Ex) (st1 : St) (vv1 : Value) (vbs1 : List Nat) (f : Nat) (u8 u9 u10 u11 u12 u13 u14 u15 u16 u17 u18 u19 u20 u21 u22 u23 u24 u25 u26 u27 u28 : Value), a = { tmps := #[.pointer (some ⟨bp, 0, none⟩), .int .i64 str, .func (.func fp) #[.pointer (some ⟨bp, 0, none⟩)] #[], undef, undef, undef, .nilIface, u, u8, u9, u10, u11, u12, u13, u14, u15, u16, u17, u18, u19, u20, u21, u22, u23, u24, u25, u26, u27, u28, undef], defers := [] } ∧ OpsAt toks part isOp total bp lv vv d vbs w u w1 x st1 vv1 vbs1 f)
      (fun _ w1 => toks.length - posOf w1 bp) ?hf ?_ ?pass
    case hf => rfl
    · go_wp2
      refine HC.out.mono ?_
      rintro e w1 ⟨u, vv', vbs', rfl, h1, h2, h3, h4⟩
      go_wp2
      exact ⟨u, x0, st0, vv', vbs', toks.length, _, _, _, _, _, _, _, _, _, _, _, _, _, _, _, _, _, _, _, _, _, rfl, h1, h2, h3, h4, by omega, HTOT.out⟩
    case pass =>
      rintro a w1 ⟨u, x, st1, vv1, vbs1, f, u8, u9, u10, u11, u12, u13, u14, u15, u16, u17, u18, u19, u20, u21, u22, u23, u24, u25, u26, u27, u28, rfl, hO⟩
      have hR1 := hO.rin
      obtain ⟨tu, vu, rfl, _⟩ := hO.rep.form
      have HN := hide (fun w' (h' : RIn w' bp toks lv vv1 st1.1 d st1.2 vbs1) => now_c h' hg)
      have HT := hide (fun w' (h' : RIn w' bp toks lv vv1 st1.1 d st1.2 vbs1) => take_c h' hg ht)
      have hopt := hop st1.1
      have hst : stepI toks st1.1 = if (tk toks st1.1).k = 101 then st1.1 else st1.1 + 1 := rfl
      have htt := ht st1.1
      unfold ptrV tokVC tokB at HN
      unfold ptrV tokVC at HT
      obtain ⟨t, hT⟩ : ∃ t, t = tk toks st1.1 := ⟨_, rfl⟩
      rw [← hT] at HN HT hopt hst htt
      have HTK := hide hT
      clear hT
      by_cases hq : ssS t.t = str
      · have hop1 : isOp t = true := by rw [hopt]; exact decide_eq_true hq
        have hne : t.k ≠ 101 := fun e => by
          have he := htt.e e
          rw [he] at hq
          have : ssS ByteArray.empty = 3 := by decide
          omega
        rw [if_neg hne] at hst
        rw [hst] at HT
        obtain ⟨f, rfl⟩ : ∃ g, f = g + 1 := ⟨f - 1, by have := hO.fuel; have := hR1.lt; omega⟩
        have hfu := hO.fuel
        have hlt1 := hR1.lt
        have hB : Below w1.heap.size w1 ((w1.alloc (tokB t)).alloc (tokB t)).drew := (((Below.refl _ _).alloc (Nat.le_refl _) _).alloc (by simp) _).drew
        have hR2 := hR1.below hB
        have hbox : ((w1.alloc (tokB t)).alloc (tokB t)).drew.cell? ⟨w1.heap.size + 1, 1, none⟩ = some (.string t.t) := by
          have h9 : ((w1.alloc (tokB t)).alloc (tokB t)).drew.heap[w1.heap.size + 1]? = some (tokB t) := heap_top (w1.alloc (tokB t)) (tokB t) (by simp)
          unfold tokB at h9 ⊢
          rw [cell_of_block h9]; rfl
        have hnv : ¬ vv1.ownBlock = some (w1.heap.size + 1) := fun e => by have := hR1.blt _ (.inr (.inr (.inl e))); omega
        have hnb : ¬ w1.heap.size + 1 = bp := fun e => by have := hR1.lt_size; omega
        unfold tokB at hR2 hbox
        have HEQ := hide hO.eq
        have HO := hide hO
        have HTT := hide (HT.out _ hR2)
        have HBX := hide (fun (w2 : World) (hF : Fr bp vv1 vv1 _ w2) => hF.cell hbox hnb hnv)
        clear hopt hst htt HT hbox hO
        go_upto_region 5 with (first | (go_at_call 156; refine (HN.out _ hR1).mono ?_; rintro e w2 ⟨rfl, rfl⟩) | (go_at_call 224; refine (HSS.out _ _).mono ?_; rintro e w2 ⟨rfl, rfl⟩) | (go_at_call 225; refine HTT.out.mono ?_; rintro e w2 ⟨rfl, hR3, hF3⟩; have hbx := HBX.out w2 hF3))
        have hR4 := hR3.drew
        have hbs4 := hR4.lt_size
        have HFX : Hid (Fr bp vv vv1 w w2.drew) := (HO.out.fr.trans ((Fr.of_below hB).trans hF3)).drew
        have hbx4 : w2.drew.cell? ⟨w1.heap.size + 1, 1, none⟩ = some (.string t.t) := hbx
        cases hpt : part (st1.1 + 1, st1.2) with
        | error p =>
          obtain ⟨er, a⟩ := p
          have HE : Hid (total = .error (er, a)) := by
            have h9 := HEQ.out
            rw [opsLoop, if_pos (by rw [← HTK.out]; exact hop1), hpt] at h9
            exact h9.symm
          have HCe : Hid (Calls Tryz.prog fp #[.pointer (some ⟨bp, 0, none⟩)] w2.drew fun e w' => RFault er a bp lv vv1 d w2.drew e w') := (HP'.out w2.drew bp lv vv1 (st1.1 + 1, st1.2) vbs1 hR4).mono fun e w' h => by rw [hpt] at h; exact h
          clear hpt HP'
          refine wp_region_held_drew (S := fun w' => w'.cell? ⟨w1.heap.size + 1, 1, none⟩ = some (.string t.t)) (by kernel_rfl) hbx4 (fun hS => ?_)
          refine wpAnyH_take (i := 0) (v := .pointer (some ⟨w1.heap.size + 1, 1, none⟩)) rfl (by kernel_rfl) (by kernel_rfl) (by kernel_rfl) (fun _ _ _ h => h) (Or.inl ⟨by rfl, by intro w hSw; (try dsimp only at hSw); go_simp⟩) hS ?_
          (try simp only [Act.put, List.setIfInBounds_toArray, List.set_cons_zero, List.set_cons_succ])
          refine wpAnyH_take (i := 1) (v := .string t.t) rfl (by kernel_rfl) (by kernel_rfl) (by kernel_rfl) (fun _ _ _ h => h) (Or.inl ⟨by rfl, by intro w hSw; (try dsimp only at hSw); go_simp⟩) hS ?_
          (try simp only [Act.put, List.setIfInBounds_toArray, List.set_cons_zero, List.set_cons_succ])
          refine wpAnyH_take (i := 2) (v := .iface tu vu) rfl (by kernel_rfl) (by kernel_rfl) (by kernel_rfl) (fun _ _ _ h => h) (Or.inl ⟨by rfl, by intro w hSw; (try dsimp only at hSw); go_simp⟩) hS ?_
          (try simp only [Act.put, List.setIfInBounds_toArray, List.set_cons_zero, List.set_cons_succ])
          refine wpAnyH_take (i := 3) (v := .func (.func fp) #[.pointer (some ⟨bp, 0, none⟩)] #[]) rfl (by kernel_rfl) (by kernel_rfl) (by kernel_rfl) (fun _ _ _ h => h) (Or.inl ⟨by rfl, by intro w hSw; (try dsimp only at hSw); go_simp⟩) hS ?_
          (try simp only [Act.put, List.setIfInBounds_toArray, List.set_cons_zero, List.set_cons_succ])
          refine wpAnyH_ready (rs := [4]) (by kernel_rfl) (by simp) ?_
          refine AllReadyH.cons rfl (fun K hK => ?_) AllReadyH.nil
          go_simp
          refine HCe.out.mono ?_
          rintro e w3 hF
          have hF' := hF
          obtain ⟨g, vv', i', h1, rfl, h3⟩ := hF
          exact ⟨rfl, .errI HE.out (hF'.after HFX.out)⟩
        | ok p =>
          obtain ⟨y, st2⟩ := p
          have HE : Hid (opsLoop toks part isOp f (.cmp t.t [x, y]) st2 = total) := by
            have h9 := HEQ.out
            rw [opsLoop, if_pos (by rw [← HTK.out]; exact hop1), hpt, ← HTK.out] at h9
            exact h9
          have HG2 := hide (hpo _ _ _ hpt)
          have HCe : Hid (Calls Tryz.prog fp #[.pointer (some ⟨bp, 0, none⟩)] w2.drew fun e w' => ∃ (u vv' : Value) (vbs' : List Nat), e = .returned u ∧ TRep w' (fun b => w2.drew.heap.size ≤ b) vbs' y u ∧ RIn w' bp toks lv vv' st2.1 d st2.2 vbs' ∧ vbs1 <+: vbs' ∧ Fr bp vv1 vv' w2.drew w') := (HP'.out w2.drew bp lv vv1 (st1.1 + 1, st1.2) vbs1 hR4).mono fun e w' h => by rw [hpt] at h; exact h
          clear hpt HP'
          go_region_held (fun w' => w'.cell? ⟨w1.heap.size + 1, 1, none⟩ = some (.string t.t)) (first | assumption | exact cell_alloc1 hbx3 _ | exact cell_alloc1 (cell_alloc1 hbx3 _) _) (first | (refine HCe.out.mono ?_; rintro e w3 ⟨u2, vv3, vbs3, rfl, q1, q2, q3, q4⟩; have hbx3 := q4.cell hbx4 hnb hnv; obtain ⟨tu2, vu2, rfl, _⟩ := q1.form))
          go_wp2
          go_step3
          have hz9 := HFX.out.size
          have hz8 := q4.size
          have hW := TRep.two t.t (HO.out.rep.frame (HO.out.rin.tkeeps ((Fr.of_below hB).trans (hF3.drew.trans q4))) (fun _ h _ => h) q3) (q1.mono (fun b hb _ => Nat.le_trans hz9 hb)) (Nat.le_trans hz9 hz8)
          have hBw : Below w3.heap.size w3 _ := ((Below.refl w3.heap.size w3).alloc (Nat.le_refl _) (.cells #[.iface tu vu, .iface tu2 vu2] 185)).alloc (by simp) (.cells #[.string t.t, .slice (some ⟨w3.heap.size, 0, none⟩) 2 2, .slice none 0 0, .map none] 399)
          have hR5 := q2.below hBw
          have hsz := HG2.out.size
          simp only at hsz
          refine ⟨rfl, ⟨_, _, st2, vv3, vbs3, f, _, _, _, _, _, _, _, _, _, _, _, _, _, _, _, _, _, _, _, _, _, rfl, hW, hR5, HO.out.pre.trans q3, HFX.out.trans (q4.trans (Fr.of_below hBw)), by omega, HE.out⟩, ?_⟩
          rw [posOf_eq hR5, posOf_eq hR1]
          omega
      · have hop0 : Hid (isOp (tk toks st1.1) = false) := by rw [Hid, ← HTK.out, hopt]; exact decide_eq_false hq
        clear hopt hst htt
        go_wp2_with (first | (go_at_call 156; refine (HN.out _ hR1).mono ?_; rintro e w2 ⟨rfl, rfl⟩) | (go_at_call 224; refine (HSS.out _ _).mono ?_; rintro e w2 ⟨rfl, rfl⟩))
        simp only [Exit.jump]
        go_ret
        have hB : Below w1.heap.size w1 ((w1.alloc (tokB t)).alloc (tokB t)).drew := (((Below.refl _ _).alloc (Nat.le_refl _) _).alloc (by simp) _).drew
        exact .okI (hO.eq.symm.trans (ops_fuel hop0.out)) (hO.rep.frame (hR1.tkeeps (Fr.of_below hB)) (fun _ h _ => h) (List.prefix_refl _)) (hR1.below hB) hO.pre (hO.fr.trans (Fr.of_below hB))

end Go.Proofs.YtodpkdajbnceoaaGreatDoor
