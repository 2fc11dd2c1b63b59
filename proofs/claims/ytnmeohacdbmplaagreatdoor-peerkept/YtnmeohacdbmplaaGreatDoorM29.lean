import Derived.Test.YtnmeohacdbmplaaGreatDoorM25
import Derived.Test.YtnmeohacdbmplaaGreatDoorM28
namespace Go.Proofs.YtnmeohacdbmplaaGreatDoor
open Go.RowKit
/-- the blocks of events -/
def eb (v : Value) (es : List Ev) (k : Nat) : Prop := v.ownBlock = some k ∨ ∃ e ∈ es, e.x.m.d.ownBlock = some k ∨ e.x.m.h.ownBlock = some k
/-- a list of hashes, whatever they are -/
def HSh (w : World) (v : Value) : Prop := ∃ n, n ≤ 1024 ∧ ((v = .slice none 0 0 ∧ n = 0) ∨ ∃ g cap cs, v = .slice (some ⟨g, 0, none⟩) n cap ∧ w.heap[g]? = some (.cells cs 25 (0, 0)) ∧ n * 32 ≤ cs.size ∧ n ≤ cap)
theorem HSh.of {B : Nat} {w : World} {x : Mg} (h : OMg B w x) : HSh w x.m.h := by
  obtain ⟨n, en, hh⟩ := h.h
  have hl := h.hl
  refine ⟨n, by omega, ?_⟩
  rcases hh.2 with h1 | ⟨g, cap, cur, h1, _, h3, h4, _, h6, _⟩
  · exact .inl h1
  · exact .inr ⟨g, cap, cur, h1, h3, by rw [h6]; exact Nat.mul_le_mul_right _ h4, h4⟩
theorem HSh.fr {S : Nat → Prop} {w w' : World} {v : Value} (h : HSh w v) (f : Fm.Fr S w w') (hs : ∀ k cs, w.heap[k]? = some (.cells cs 25 (0, 0)) → S k) : HSh w' v := by
  obtain ⟨n, hn, h⟩ := h
  refine ⟨n, hn, h.imp id ?_⟩
  rintro ⟨g, cap, cs, h1, h2, h3⟩
  exact ⟨g, cap, cs, h1, (f.block g (Array.getElem?_eq_some_iff.1 h2).1 (hs g cs h2)).trans h2, h3⟩
theorem HSh.set {w : World} {v : Value} (h : HSh w v) (G o : Nat) (us : List Value) {cur : Array Value} {t : TypeId} (hG : w.heap[G]? = some (.cells cur t (0, 0))) : HSh (w.setCells G o us) v := by
  obtain ⟨n, hn, h⟩ := h
  refine ⟨n, hn, h.imp id ?_⟩
  rintro ⟨g, cap, cs, h1, h2, h3, h4⟩
  by_cases e : g = G
  · subst e
    rw [hG] at h2
    simp only [Option.some.injEq, Obj.cells.injEq] at h2
    obtain ⟨rfl, rfl, _⟩ := h2
    exact ⟨g, cap, _, h1, setCells_heap us w g o cur _ hG, by rw [setR_size]; exact h3, h4⟩
  · exact ⟨g, cap, cs, h1, (setCells_other us w G o g e).trans h2, h3, h4⟩
theorem Ev.g25 {e : Ev} (h : e.peer.length = 20) : e.ls[25]? = some e.x.m.d := by
  unfold Ev.ls
  rw [List.getElem?_cons_succ, List.getElem?_append_right (by rw [bcl_len, h]; omega), bcl_len, h]
  rfl
theorem Ev.g60 {e : Ev} (h : e.peer.length = 20) (ok : e.x.m.ok) : e.ls[60]? = some e.x.m.h := by
  unfold Ev.ls
  rw [List.getElem?_cons_succ, List.getElem?_append_right (by rw [bcl_len, h]; omega), bcl_len, h]
  exact ls_tail (o := 5) (n := 32) (j := 2) rfl (by rw [bcl_len, ok.r])
theorem fm_ne {α : Type} (f : α → Option Nat) : ∀ {l : List α} (_ : (l.filterMap f).Nodup) (i j : Nat) (_ : i < j) {x y : α} (_ : l[i]? = some x) (_ : l[j]? = some y) {k : Nat} (_ : f x = some k), f y ≠ some k
  | [], _, i, _, _, _, _, hx, _, _, _ => by simp at hx
  | a :: l, hn, 0, j + 1, _, x, y, hx, hy, k, hk => by
    simp only [List.getElem?_cons_zero, Option.some.injEq] at hx
    subst hx
    rw [List.getElem?_cons_succ] at hy
    rw [List.filterMap_cons_some hk, List.nodup_cons] at hn
    exact fun e => hn.1 (List.mem_filterMap.2 ⟨y, List.mem_of_getElem? hy, e⟩)
  | a :: l, hn, i + 1, j + 1, hij, x, y, hx, hy, k, hk => by
    rw [List.getElem?_cons_succ] at hx hy
    refine fm_ne f (l := l) ?_ i j (by omega) hx hy hk
    cases h : f a with
    | none => rwa [List.filterMap_cons_none h] at hn
    | some b => rw [List.filterMap_cons_some h, List.nodup_cons] at hn; exact hn.2
/-- events that are being written over -/
structure SE (w : World) (B G : Nat) (es : List Ev) (i di : Nat) (wr : World) : Prop where
  rg : ∀ j e, i ≤ j → es[j]? = some e → wr.rangeAt G (j * 61) e.ls
  th : ∃ cs, wr.heap[G]? = some (.cells cs 49 (0, 0)) ∧ es.length * 61 ≤ cs.size
  da : ∀ j e, di ≤ j → es[j]? = some e → OW B wr e.x.m.d e.x.D
  ha : ∀ j e, i ≤ j → es[j]? = some e → HSh wr e.x.m.h
  fr : Fm.Fr (fun k => k ≠ G ∧ ∀ e ∈ es, e.x.m.d.ownBlock ≠ some k ∧ e.x.m.h.ownBlock ≠ some k) w wr
theorem SE.start {w : World} {B G n c : Nat} {es : List Ev} (h : EVS B w (.slice (some ⟨G, 0, none⟩) n c) es) (hn : n = es.length) : SE w B G es 0 0 w := by
  refine ⟨fun j e _ he => h.at hn he, ?_, fun j e _ he => (h.2 e (List.mem_of_getElem? he)).mg.d, fun j e _ he => HSh.of (h.2 e (List.mem_of_getElem? he)).mg, Fm.Fr.refl _ _⟩
  rcases h.1.2 with ⟨h1, _⟩ | ⟨g, cap, cur, h1, _, h3, h4, _, h6, _⟩
  · cases h1
  · simp only [Value.slice.injEq, Option.some.injEq, Addr.mk.injEq] at h1
    obtain ⟨⟨rfl, _⟩, _, _⟩ := h1
    exact ⟨cur, h3, by rw [h6]; exact Nat.mul_le_mul_right _ h4⟩
theorem rangeFr {S : Nat → Prop} {w w' : World} {g o : Nat} {xs : List Value} (h : w.rangeAt g o xs) (f : Fm.Fr S w w') (hs : S g) (hg : g < w.heap.size) : w'.rangeAt g o xs := fun j v hj => (World.cell?_of_block (w := w) (f.block g hg hs)).trans (h j v hj)
/-- the bytes of one are written over -/
theorem SE.spoil {w : World} {B G : Nat} {es : List Ev} {i : Nat} {wr w' : World} (h : SE w B G es i i wr) (hn : (es.filterMap (fun e => e.x.m.d.ownBlock)).Nodup) {e : Ev} (he : es[i]? = some e) (f : Fm.Fr (fun k => e.x.m.d.ownBlock ≠ some k) wr w') : SE w B G es i (i + 1) w' := by
  obtain ⟨cs, hG, hsz⟩ := h.th
  have hd := h.da i e (Nat.le_refl _) he
  have tg : ∀ k cs t, wr.heap[k]? = some (.cells cs t (0, 0)) → t ≠ 5 → e.x.m.d.ownBlock ≠ some k := fun k cs t hk ht hb => by
    obtain ⟨_, _, cs', h5⟩ := rowTag hd hb
    exact tag_ne hk h5 ht rfl
  have hGne : e.x.m.d.ownBlock ≠ some G := tg G cs _ hG (by decide)
  have hGl := (Array.getElem?_eq_some_iff.1 hG).1
  refine ⟨fun j y hj hy => rangeFr (h.rg j y hj hy) f hGne hGl, ⟨cs, (f.block G hGl hGne).trans hG, hsz⟩, fun j y hj hy => (h.da j y (by omega) hy).frS f (fun k hk hb => ?_), fun j y hj hy => (h.ha j y hj hy).fr f (fun k cs' hk => tg k cs' _ hk (by decide)), ⟨f.os.trans h.fr.os, f.tape.trans h.fr.tape, f.output.trans h.fr.output, Nat.le_trans h.fr.size f.size, fun k hk hs => (f.block k (Nat.lt_of_lt_of_le hk h.fr.size) (hs.2 e (List.mem_of_getElem? he)).1).trans (h.fr.block k hk hs)⟩⟩
  exact fm_ne (fun e : Ev => e.x.m.d.ownBlock) hn i j (by omega) he hy hb hk
/-- one of its hashes is written over -/
theorem SE.hash {w : World} {B G : Nat} {es : List Ev} {i di : Nat} {wr : World} (h : SE w B G es i di wr) {e : Ev} (he : es[i]? = some e) {g : Nat} (hg : e.x.m.h.ownBlock = some g) (hne : ∃ cs, wr.heap[g]? = some (.cells cs 25 (0, 0))) (o : Nat) (us : List Value) : SE w B G es i di (wr.setCells g o us) := by
  obtain ⟨cs, hG, hsz⟩ := h.th
  obtain ⟨cs2, hg2⟩ := hne
  have hGg : G ≠ g := tag_ne hG hg2 (by decide)
  obtain ⟨k1, k2, k3, k4⟩ := setCells_rest us wr g o
  have f : Fm.Fr (fun k => k ≠ g) wr (wr.setCells g o us) := ⟨k1, k2, k3, Nat.le_of_eq k4.symm, fun k _ hk => setCells_other us wr g o k hk⟩
  refine ⟨fun j y hj hy => World.rangeAt_setCells_apart (h.rg j y hj hy) g o us (.inl hGg), ⟨cs, (setCells_other us wr g o G hGg).trans hG, hsz⟩, fun j y hj hy => (h.da j y hj hy).frS f (fun k hk hb => ?_), fun j y hj hy => (h.ha j y hj hy).set g o us hg2, ⟨f.os.trans h.fr.os, f.tape.trans h.fr.tape, f.output.trans h.fr.output, Nat.le_trans h.fr.size f.size, fun k hk hs => (f.block k (Nat.lt_of_lt_of_le hk h.fr.size) (fun e' => (hs.2 e (List.mem_of_getElem? he)).2 (by rw [e']; exact hg))).trans (h.fr.block k hk hs)⟩⟩
  obtain ⟨_, _, cs', h5⟩ := rowTag (h.da j y hj hy) hk
  rw [hb] at h5
  exact tag_ne hg2 h5 (by decide) rfl
/-- the event itself is written over -/
theorem SE.put {w : World} {B G : Nat} {es : List Ev} {i : Nat} {wr : World} (h : SE w B G es i (i + 1) wr) (us : List Value) (hu : us.length = 61) : SE w B G es (i + 1) (i + 1) (wr.setCells G (i * 61) us) := by
  obtain ⟨cs, hG, hsz⟩ := h.th
  obtain ⟨k1, k2, k3, k4⟩ := setCells_rest us wr G (i * 61)
  have f : Fm.Fr (fun k => k ≠ G) wr (wr.setCells G (i * 61) us) := ⟨k1, k2, k3, Nat.le_of_eq k4.symm, fun k _ hk => setCells_other us wr G (i * 61) k hk⟩
  refine ⟨fun j y hj hy => World.rangeAt_setCells_apart (h.rg j y (by omega) hy) G _ us (.inr (.inr (by rw [hu]; omega))), ⟨_, setCells_heap us wr G _ cs _ hG, by rw [setR_size]; exact hsz⟩, fun j y hj hy => (h.da j y hj hy).frS f (fun k hk hb => ?_), fun j y hj hy => (h.ha j y (by omega) hy).set G _ us hG, ⟨f.os.trans h.fr.os, f.tape.trans h.fr.tape, f.output.trans h.fr.output, Nat.le_trans h.fr.size f.size, fun k hk hs => (f.block k (Nat.lt_of_lt_of_le hk h.fr.size) hs.1).trans (h.fr.block k hk hs)⟩⟩
  obtain ⟨_, _, cs', h5⟩ := rowTag (h.da j y hj hy) hk
  rw [hb] at h5
  exact tag_ne hG h5 (by decide) rfl
def zeh : List Value := Ev.ls ⟨true, zr 20, ⟨zm, [], []⟩⟩
theorem zeh_built : Tryz.prog.built 49 [(0, .bool true)] = some zeh.toArray := by kernel_rfl
theorem zeh_len : zeh.length = 61 := by kernel_rfl
theorem zeh_one : zeh.toArray.all (·.oneCell') = true := by kernel_rfl
def h9 : List Value := Lib.byteCells (9 :: List.replicate 31 (0 : UInt8))
theorem h9_built : Tryz.prog.built 25 [(0, .int .u8 9)] = some h9.toArray := by kernel_rfl
theorem h9_len : h9.length = 32 := by kernel_rfl
theorem h9_one : h9.toArray.all (·.oneCell') = true := by kernel_rfl
theorem built_one {ops : Array Oper} {rest : List Oper} {o : Oper} {a : Act} {w : World} {Q : Exit → Act → World → Prop} (hg : o.guard = none) (t : TypeId) (x0 : Operand) (ho : o.op = .build t #[(0, x0)]) (v0 : Value) (h0 : a.eval x0 = v0) (T : Array Value)
    (hT : Tryz.prog.built t [(0, v0)] = some T) (h : wpList Tryz.prog ops Q rest (a.put o.dst (.agg T)) w) : wpList Tryz.prog ops Q (o :: rest) a w := by
  have e : (#[(0, x0)].map fun (i, y) => (i, a.eval y)).toList = [(0, v0)] := by simp [h0]
  exact wpList_build hg _ _ ho (by rw [e, hT]; rfl) (by rw [e, hT]; exact h)
set_option maxHeartbeats 2000000 in
set_option maxRecDepth 100000 in
/-- all that events hold is written over -/
theorem spoilEventsT (w : World) (B : Nat) (v : Value) (es : List Ev) (h : EVS B w v es) (hd : (es.filterMap (fun e => e.x.m.d.ownBlock)).Nodup) (hn : es.length ≤ 107374182) :
    Calls Tryz.prog 31 #[v] w fun e w' => e = .returned (.tuple #[]) ∧ Fm.Fr (fun k => ¬ eb v es k) w w' := by
  have HV := Lib.hid h
  have HD := Lib.hid hd
  obtain ⟨a, c, rfl⟩ := h.form
  rcases h.1.2 with ⟨e0, h0⟩ | ⟨G, cap, cur, e0, _⟩
  · simp only [Value.slice.injEq] at e0
    obtain ⟨rfl, -, rfl⟩ := e0
    generalize es.length = n at *
    subst h0
    clear h hd hn
    go_enter Tryz.func31, Tryz.ntmps31
    go_wp2
    go_loopw [2] (fun t wr => t = .int .i64 0 ∧ w = wr) (fun _ _ => 0)
    case atStart => exact ⟨rfl, rfl⟩
    case round =>
      obtain ⟨rfl, rfl⟩ := hrel
      go_wp2
      go_end0
      exact ⟨rfl, Fm.Fr.refl _ _⟩
  · simp only [Value.slice.injEq] at e0
    obtain ⟨rfl, -, rfl⟩ := e0
    have HI0 := Lib.hid (SE.start h rfl)
    generalize hnn : es.length = n at *
    have HN := Lib.hid hnn
    clear h hd hnn
    have HTE : Hid (zeh.toArray.size = 61) := (by rw [List.size_toArray, zeh_len] : _ = _)
    have HTH : Hid (h9.toArray.size = 32) := (by rw [List.size_toArray, h9_len] : _ = _)
    obtain ⟨TE, hTE⟩ : ∃ x, x = zeh.toArray := ⟨_, rfl⟩
    obtain ⟨TH, hTH⟩ : ∃ x, x = h9.toArray := ⟨_, rfl⟩
    have bE := zeh_built
    have bH := h9_built
    have oE := zeh_one
    have oH := h9_one
    rw [← hTE] at bE oE
    rw [← hTH] at bH oH
    have iE : (Tryz.prog.info? 49).map (·.size) = some TE.size := by
      obtain ⟨i0, hi, hz0, hz1, hz2⟩ := info_parts info_evP
      rw [hTE, HTE.out, hi, Option.map_some, hz1]
    have iH : (Tryz.prog.info? 25).map (·.size) = some TH.size := by rw [hTH, HTH.out]; exact info_hash
    have zE : Hid (TE.size = 61 ∧ TE.toList.length = 61) := by rw [hTE]; exact ⟨HTE.out, by rw [Array.length_toList]; exact HTE.out⟩
    have zH : Hid (TH.size = 32) := by rw [hTH]; exact HTH.out
    clear hTE hTH HTE HTH
    go_enter Tryz.func31, Tryz.ntmps31
    go_wp2
    go_loopw [2] (fun t wr => ∃ i : Nat, i ≤ n ∧ t = .int .i64 i ∧ Hid (SE w B G es i i wr)) (fun t _ => n - (intOf t).toNat)
    case atStart => exact ⟨0, Nat.zero_le _, rfl, HI0⟩
    case round =>
      clear HI0
      obtain ⟨i, hi, rfl, HI⟩ := hrel
      by_cases hlt : i < n
      · as_aux_lemma =>
        obtain ⟨e, he⟩ : ∃ e, es[i]? = some e := ⟨_, List.getElem?_eq_getElem (by rw [HN.out]; exact hlt)⟩
        have HE := Lib.hid he
        have oe := HV.out.2 e (List.mem_of_getElem? he)
        have HOE := Lib.hid oe
        have cd : wr.cell? ⟨G, i * 61 + 25, none⟩ = some e.x.m.d := HI.out.rg i e (Nat.le_refl _) he 25 _ (Ev.g25 oe.pr)
        have hod := HI.out.da i e (Nat.le_refl _) he
        obtain ⟨da, dn, dc, ed⟩ := hod.form3
        have HSB := Lib.hid (spoilBytesT wr B _ e.x.D hod (by have := oe.mg.dl; omega))
        rw [ed] at cd
        rw [ed] at HSB
        have HED := Lib.hid ed
        clear hod oe he ed
        go_wp2_with fail
        refine HSB.out.mono ?_
        rintro e9 w3 ⟨rfl, _, f3⟩
        have HI3 : Hid (SE w B G es i (i + 1) w3) := HI.out.spoil HD.out HE.out (by rw [HED.out]; exact f3)
        clear f3 HSB cd HI HED
        obtain ⟨ha, hn, hc, eh⟩ := HOE.out.mg.ok.h
        have HEH := Lib.hid eh
        clear eh
        have ch : ∀ u, SE w B G es i (i + 1) u → u.cell? ⟨G, i * 61 + 60, none⟩ = some (.slice ha hn hc) := fun u hu => by
          have := hu.rg i e (Nat.le_refl _) HE.out 60 _ (Ev.g60 HOE.out.pr HOE.out.mg.ok)
          rwa [HEH.out] at this
        have HCH := Lib.hid ch
        clear ch
        go_wp2
        go_loopw [3] (fun t wr => ∃ k : Nat, k ≤ hn ∧ t = .int .i64 k ∧ Hid (SE w B G es i (i + 1) wr)) (fun t _ => hn - (intOf t).toNat)
        case atStart => exact ⟨0, Nat.zero_le _, rfl, HI3⟩
        case round =>
          clear HI3
          obtain ⟨k, hk, rfl, HK⟩ := hrel
          have c60 := HCH.out wr HK.out
          have hsh := HK.out.ha i e (Nat.le_refl _) HE.out
          rw [HEH.out] at hsh
          obtain ⟨nh, hnh, hsh⟩ := hsh
          by_cases hkl : k < hn
          · rcases hsh with ⟨e1, _⟩ | ⟨g, cap, cs, e1, hg, hsz, hcap⟩
            · simp only [Value.slice.injEq] at e1
              omega
            simp only [Value.slice.injEq] at e1
            obtain ⟨rfl, rfl, rfl⟩ := e1
            have ht : wr.there g (k * 32) TH.size := by rw [zH.out]; exact there_row hg (by omega)
            have HK2 : Hid (SE w B G es i (i + 1) (wr.setCells g (k * 32) TH.toList)) := HK.out.hash HE.out (by rw [HEH.out]; rfl) ⟨cs, hg⟩ _ _
            clear HK hg hsz
            go_wp2_with (first | (refine built_one rfl 25 _ rfl _ rfl TH bH ?_) | (refine wpList_store_mid rfl 25 _ _ rfl g (k * 32) TH rfl rfl ht iH oH ?_))
            exact ⟨⟨k + 1, by omega, by go_num, HK2⟩, by simp [intOf]; omega⟩
          · obtain ⟨cs, hG, hsz⟩ := HK.out.th
            have ht : wr.there G (i * 61) TE.size := by rw [zE.out.1]; exact there_row hG (by have := HN.out; omega)
            have HK2 : Hid (SE w B G es (i + 1) (i + 1) (wr.setCells G (i * 61) TE.toList)) := HK.out.put _ zE.out.2
            clear HK hG hsz hsh hnh
            go_wp2_with (first | (refine built_one rfl 49 _ rfl _ rfl TE bE ?_) | (refine wpList_store_mid rfl 49 _ _ rfl G (i * 61) TE rfl rfl ht iE oE ?_))
            exact ⟨⟨i + 1, by omega, by go_num, HK2⟩, by simp [intOf]; omega⟩
      · have HF : Hid (Fm.Fr (fun k => ¬ eb (.slice (some ⟨G, 0, none⟩) n c) es k) w wr) := HI.out.fr.mono (fun k _ h => ⟨fun e => h (.inl (by rw [e]; rfl)), fun e he => ⟨fun x => h (.inr ⟨e, he, .inl x⟩), fun x => h (.inr ⟨e, he, .inr x⟩)⟩⟩)
        clear HI
        go_wp2
        go_end0
        exact ⟨rfl, HF.out⟩
end Go.Proofs.YtnmeohacdbmplaaGreatDoor
namespace Go.Proofs.YtnmeohacdbmplaaGreatDoor
open Go.RowKit
/-- the lists of bytes of the events lie in unlike blocks, and not in that of the bitfield -/
def Dq (es : List Ev) (hs : Value) : Prop := (es.filterMap (fun e => e.x.m.d.ownBlock)).Nodup ∧ (∀ e ∈ es, ∀ k, e.x.m.d.ownBlock = some k → hs.ownBlock ≠ some k) ∧ (es.filterMap (fun e => e.x.m.h.ownBlock)).Nodup
theorem Dq.of {h0 h1 : Value} {es pre : List Ev} {w1 w2 : World} {ev : Value} (hd : Dj h0 h1 es) (he : EVS w1.heap.size w2 ev (pre ++ es)) (hp : ∀ e ∈ pre, e.x.m.d.ownBlock = none ∧ e.x.m.h.ownBlock = none) (hl : ∀ k, h0.ownBlock = some k → k < w1.heap.size) : Dq (pre ++ es) h1 := by
  have e0 : pre.filterMap (fun e => e.x.m.d.ownBlock) = [] := by
    rw [List.filterMap_eq_nil_iff]
    exact fun e he => (hp e he).1
  have e1 : pre.filterMap (fun e => e.x.m.h.ownBlock) = [] := by
    rw [List.filterMap_eq_nil_iff]
    exact fun e he => (hp e he).2
  refine ⟨by rw [List.filterMap_append, e0, List.nil_append]; exact hd.1, fun e he' k hk hq => ?_, by rw [List.filterMap_append, e1, List.nil_append]; exact hd.2.2⟩
  rcases hd.2.1 with h | h
  · rw [h] at hq
    have q1 := hl k hq
    have q2 := (own_ge (he.2 e he').mg.d hk).1
    omega
  · rcases List.mem_append.1 he' with h1 | h1
    · rw [(hp e h1).1] at hk; cases hk
    · exact h e h1 k hk hq
set_option maxHeartbeats 1000000 in
/-- one more Feed -/
theorem FdE.stepD {w : World} {g R : Nat} {P : Pv} {L : List Int} {H : List UInt8} {p s : Nat} {held : List UInt8} {hv : Value} {l : List UInt8} {e : Ending} {w' : World} (hf : FP w g R P L H p s held hv) (h : FdE w g R P L H p s held hv l e w') {q0 : Qs} {A : List UInt8} {es : List Ev} (acc : Acc P.info L P.b q0 A es p s held ⟨P.ic, P.ii, P.ib, H⟩ P.sh) :
    ∃ ev fin es2 B1, e = .returned (.tuple #[ev, .int .i64 fin]) ∧ w.heap.size ≤ B1 ∧ EVS B1 w' ev es2 ∧ Fm.Fr (fun k => k ≠ g ∧ k ≠ R ∧ hv.ownBlock ≠ some k) w w' ∧
      ((fin = 0 ∧ ∃ P' H' p' s' held' hv', (Dq es2 P'.hs ∧ (∀ k, P'.hs.ownBlock = some k → P.hs.ownBlock = some k ∨ w.heap.size ≤ k) ∧ P'.ln = P.ln) ∧ FP w' g R P' L H' p' s' held' hv' ∧ P'.info = P.info ∧ P'.b = P.b ∧ P'.wc = P.wc ∧ P'.wi = P.wi ∧ (hv'.ownBlock = hv.ownBlock ∨ ∀ k, hv'.ownBlock = some k → w.heap.size ≤ k) ∧ (∀ k, hv'.ownBlock = some k → k < B1) ∧ Acc P.info L P.b q0 (A ++ l) (es ++ es2) p' s' held' ⟨P'.ic, P'.ii, P'.ib, H'⟩ P'.sh) ∨
       (fin ≠ 0 ∧ ∃ met xs q' P', (Dq es2 P'.hs ∧ (∀ k, P'.hs.ownBlock = some k → P.hs.ownBlock = some k ∨ w.heap.size ≤ k)) ∧ Tel P.info L P.b q0 (A ++ l) met xs q' fin ∧ EvH (es ++ es2) met xs ∧ Sd w' g P' P.b P.wc P.wi (!met.isEmpty) q' fin)) := by
  obtain ⟨ev, fin, mv, bsv, er, met2, bs2, h', r, p', s', held', hv', w1, er1, w2, rfl, po, hrs, hfin, hend⟩ := h
  obtain ⟨hc1, hlo, hho⟩ := hf.hc po.fr
  obtain ⟨met, bs, xs, rd, hin, hr, heh, hsh⟩ := acc
  have rdA : Fm.Rd true (A ++ l) (met ++ met2) (bs ++ bs2) h' r er := rd.app rfl po.rd
  have early : met2 ≠ [] → met = [] ∧ bs = [] ∧ xs = [] ∧ q0 = ⟨P.ic, P.ii, P.ib, H⟩ ∧ es = [] := fun hne => by
    have hp : (p == 2) = true := by
      cases hx : (p == 2) with
      | true => rfl
      | false => exact absurd ((rd_facts po.rd).1 hx) hne
    have hm : met = [] := (Fm.rd_none rd).2 hp
    have hb : bs = [] := ((Fm.rd_none rd).1 hm).1
    subst hm hb
    cases hr
    obtain ⟨es', rfl, hem⟩ := heh
    exact ⟨rfl, rfl, rfl, rfl, by rw [hem.none]⟩
  have key : ∃ es2 metN xsN q' P', EVS w1.heap.size w2 ev es2 ∧ Fm.Fr (fun k => k ≠ g) w1 w2 ∧ HC w2 g P' L q'.H ∧ P'.info = P.info ∧ P'.b = P.b ∧ P'.ln = P.ln ∧ P'.st = P.st ∧ P'.why = P.why ∧ P'.wc = P.wc ∧ P'.wi = P.wi ∧
      ((P'.hs = P.hs ∧ q'.H = H) ∨ OW w1.heap.size w2 P'.hs q'.H) ∧ q' = ⟨P'.ic, P'.ii, q'.b, q'.H⟩ ∧ EvH (es ++ es2) metN xsN ∧ P'.sh = (!metN.isEmpty) ∧ Tel P.info L P.b q0 (A ++ l) metN xsN q' fin ∧
      (fin = 0 → metN = met ++ met2 ∧ (∀ h ∈ met ++ met2, hinf h = P.info) ∧ Hr L P.b q0 (bs ++ bs2) xsN q' 0 ∧ er = 0 ∧ q'.b = P'.ib) ∧ Dq es2 P'.hs := by
    have fin0 : fin = 0 → er1 = 0 ∧ er = 0 := fun h0 => by
      rw [hfin] at h0
      split at h0
      · rename_i h; exact ⟨h, h0⟩
      · rename_i h; exact absurd h0 h
    rcases hrs with ⟨rfl, fr2, es2, xs2, q', P', hvs, hem, hr2, hc, hP', ho, hdj⟩ | ⟨h, rfl, ⟨hne, rfl, h171, hbw⟩ | ⟨heq, fr2, es2, xs2, q', P', hvs, hem, hr2, hc, hP', ho, hdj⟩⟩
    · have hrA := hr.app rfl hr2
      have rdB := rdA
      rw [List.append_nil] at rdB
      refine ⟨es2, met, xs ++ xs2, q', P', hvs, fr2, hc, by rw [hP'], by rw [hP'], by rw [hP'], by rw [hP'], by rw [hP'], by rw [hP'], by rw [hP'], ho, by rw [hP'], ?_, by rw [hP']; exact hsh, ⟨_, _, _, _, _, rdB, .inr ⟨hin, rfl, er1, hrA, hfin⟩⟩, fun h0 => ?_, Dq.of (pre := []) hdj hvs (fun _ h => by cases h) (fun k hk => Nat.lt_of_lt_of_le (own_ge hf.ho hk).2 po.fr.size)⟩
      · obtain ⟨es', rfl, hm⟩ := heh
        exact ⟨es' ++ es2, by rw [List.append_assoc], hm.app hem⟩
      · obtain ⟨e1, e2⟩ := fin0 h0
        rw [e1] at hrA
        exact ⟨by rw [List.append_nil], by rw [List.append_nil]; exact hin, hrA, e2, by rw [hP']⟩
    · obtain ⟨rfl, rfl, rfl, rfl, rfl⟩ := early (by simp)
      have hf171 : fin = 171 := by rw [hfin, h171]; rfl
      refine ⟨[], [], [], ⟨P.ic, P.ii, P.ib, H⟩, P, EVS.nil _ _, Fm.Fr.of_below hbw, hc1.below hbw, rfl, rfl, rfl, rfl, rfl, rfl, rfl, .inl ⟨rfl, rfl⟩, rfl, ⟨[], rfl, EvM.nil⟩, by rw [hsh], ⟨_, _, _, _, _, rdA, .inl ⟨h, rfl, hne, rfl, rfl, rfl, hf171⟩⟩, fun h0 => ?_, ⟨List.nodup_nil, (fun _ h => by cases h), List.nodup_nil⟩⟩
      rw [hf171] at h0
      cases h0
    · obtain ⟨rfl, rfl, rfl, rfl, rfl⟩ := early (by simp)
      refine ⟨[hev h] ++ es2, [h], xs2, q', P', hvs, fr2, hc, by rw [hP'], by rw [hP'], by rw [hP'], by rw [hP'], by rw [hP'], by rw [hP'], by rw [hP'], ho, by rw [hP'], ⟨es2, rfl, hem⟩, by rw [hP']; rfl, ⟨_, _, _, _, _, rdA, .inr ⟨fun x hx => ?_, rfl, er1, hr2, hfin⟩⟩, fun h0 => ?_, Dq.of (pre := [hev h]) hdj hvs (fun e h => by simp at h; subst h; exact ⟨rfl, rfl⟩) (fun k hk => Nat.lt_of_lt_of_le (own_ge hf.ho hk).2 po.fr.size)⟩
      · simp at hx; subst hx; exact heq
      · obtain ⟨e1, e2⟩ := fin0 h0
        rw [e1] at hr2
        exact ⟨rfl, fun x hx => by simp at hx; subst hx; exact heq, hr2, e2, by rw [hP']⟩
  obtain ⟨es2, metN, xsN, q', P', hvs, fr2, hc, i1, i2, i3, i4, i5, i6, i7, ho, hq, heN, hsN, htel, h0x, hdq⟩ := key
  have hhs : ∀ k, P'.hs.ownBlock = some k → P.hs.ownBlock = some k ∨ w.heap.size ≤ k := fun k hk => by
    rcases ho with ⟨e1, _⟩ | ho
    · exact .inl (by rw [← e1]; exact hk)
    · exact .inr (Nat.le_trans po.fr.size (own_ge ho hk).1)
  have fr12 : Fm.Fr (fun k => k ≠ g ∧ k ≠ R ∧ hv.ownBlock ≠ some k) w w2 := (po.fr.mono (fun k _ (h : k ≠ g ∧ k ≠ R ∧ hv.ownBlock ≠ some k) => h.2)).trans (fr2.mono (fun k _ (h : k ≠ g ∧ k ≠ R ∧ hv.ownBlock ≠ some k) => h.1)) (fun _ _ x => x)
  rcases hend with ⟨h0, rfl⟩ | ⟨h0, P1, k1, k2, fr3⟩
  · obtain ⟨rfl, hin2, hr2, rfl, hqb⟩ := h0x h0
    have st := po.st rfl
    have hfp := hf.after po fr2 hc i3 i4 i5 ho
    refine ⟨ev, fin, es2, w1.heap.size, rfl, po.fr.size, hvs, fr12, .inl ⟨h0, P', _, _, _, _, _, ⟨hdq, hhs, i3⟩, hfp, i1, i2, i6, i7, po.at_, fun k hk => (own_ge po.ow hk).2, met ++ met2, bs ++ bs2, xsN, ?_, hin2, ?_, heN, hsN⟩⟩
    · rw [st.2.2, ← st.2.1]
      exact rdA
    · rw [← hqb, ← hq]
      exact hr2
  · obtain ⟨j1, j2, j3, j4, j5, j6, j7⟩ := k1.same hc.pk
    have hdqJ : Dq es2 P1.hs := by rw [j3]; exact hdq
    have hhsJ : ∀ k, P1.hs.ownBlock = some k → P.hs.ownBlock = some k ∨ w.heap.size ≤ k := by rw [j3]; exact hhs
    refine ⟨ev, fin, es2, w1.heap.size, rfl, po.fr.size, hvs.fr (fun k hk hlt => fr3.block k hlt (fun e => by have := hc1.pk.lt; omega)), fr12.trans (fr3.mono (fun k _ (h : k ≠ g ∧ k ≠ R ∧ hv.ownBlock ≠ some k) => h.1)) (fun _ _ x => x), .inr ⟨h0, metN, xsN, q', { P1 with why := fin, st := .pointer none, ln := .slice none 0 0 }, ⟨hdqJ, hhsJ⟩, htel, heN, k2, rfl, j1.trans i2, j2.trans hsN, j4.trans i6, j5.trans i7, j6.trans (by rw [hq]), j7.trans (by rw [hq]), ?_, hc.hl⟩⟩
    show OW 0 w' P1.hs q'.H
    rw [j3]
    have ho2 : OW 0 w2 P'.hs q'.H := by
      rcases ho with ⟨e1, e2⟩ | ho
      · rw [e1, e2]
        exact own_at hho (fun k hk _ => fr2.block k (own_ge hho hk).2 (hf.hj k hk).1)
      · exact ho.mono (Nat.zero_le _)
    refine own_at ho2 (fun k hk hx => fr3.block k (own_ge ho2 hk).2 ?_)
    obtain ⟨cs, hx⟩ := hx
    rintro rfl
    have := hc.pk.2
    rw [hx] at this
    simp at this
end Go.Proofs.YtnmeohacdbmplaaGreatDoor
namespace Go.Proofs.YtnmeohacdbmplaaGreatDoor
open Go.RowKit
theorem hr_len {L : List Int} {pb : Int} {q q1 : Qs} {bs : List (List UInt8)} {xs : List Mg} {e : Int} (x : Hr L pb q bs xs q1 e) : xs.length ≤ bs.length := by
  induction x with
  | nil => simp
  | dec => simp
  | ill => simp
  | ok q qa q' y bs xs e h h' hs _ ih =>
    rw [List.length_append, List.length_cons]
    split <;> simp <;> omega
theorem Acc.len {info : List UInt8} {L : List Int} {pb : Int} {q0 : Qs} {A : List UInt8} {es : List Ev} {p s : Nat} {held : List UInt8} {q : Qs} {sh : Bool} (h : Acc info L pb q0 A es p s held q sh) : es.length ≤ 1 + A.length := by
  obtain ⟨met, bs, xs, rd, _, hr, ⟨es', rfl, he⟩, _⟩ := h
  have h1 := rd_facts rd
  have h2 := hr_len hr
  have h3 := he.1
  rw [List.length_append, List.length_map]
  omega
theorem Tel.len {info : List UInt8} {L : List Int} {pb : Int} {q0 : Qs} {T : List UInt8} {met : List (List UInt8)} {xs : List Mg} {q' : Qs} {fin : Int} (x : Tel info L pb q0 T met xs q' fin) {es : List Ev} (h : EvH es met xs) : es.length ≤ 1 + T.length := by
  obtain ⟨es', rfl, he⟩ := h
  obtain ⟨m1, bs1, h1, r1, er, d1, x⟩ := x
  have h3 := he.1
  rw [List.length_append, List.length_map]
  rcases x with ⟨_, _, _, rfl, rfl, _⟩ | ⟨_, rfl, f1, hr1, _⟩
  · rw [List.length_nil] at h3 ⊢; omega
  · have h1 := rd_facts d1
    have h2 := hr_len hr1
    omega
theorem FP.frZ {w w' : World} {g R : Nat} {P : Pv} {L : List Int} {H : List UInt8} {p s : Nat} {held : List UInt8} {hv : Value} {S : Nat → Prop} (h : FP w g R P L H p s held hv) (fr : Fm.Fr S w w') (hg : S g) (hR : S R) (h0 : S 0) (h1 : S 1) (hz : ∀ k, P.ln.ownBlock = some k → S k) (h8 : ∀ k, P.hs.ownBlock = some k → S k) (hh : ∀ k, hv.ownBlock = some k → S k) : FP w' g R P L H p s held hv :=
  ⟨h.pk.keep (fr.block g h.pk.lt hg), h.stp, h.why, h.gR, h.g1, h.b0, h.b1, h.lok, own_at h.lo (fun k hk _ => fr.block k (own_ge h.lo hk).2 (hz k hk)), h.lj, own_at h.ho (fun k hk _ => fr.block k (own_ge h.ho hk).2 (h8 k hk)), h.hj, h.hl, (fr.block R h.rk.lt hR).trans h.rk, h.st, own_at h.ow (fun k hk _ => fr.block k (own_ge h.ow hk).2 (hh k hk)), h.nil,
    fun j v hj => by rw [World.cell?_of_block (w := w) (fr.block 1 h.kt.pos h1)]; exact h.kt j v hj,
    ⟨Nat.lt_of_lt_of_le h.mt.1 fr.size, fun j hj => (World.cell?_of_block (w := w) (fr.block 0 h.mt.1 h0)).trans (h.mt.2 j hj)⟩⟩
/-- a connection that is not gone, with all its blocks in Z -/
structure CA (w : World) (g R : Nat) (P : Pv) (H : List UInt8) (Z : Nat → Prop) (n : Nat) (L : List Int) (p s : Nat) (held : List UInt8) (hv : Value) (q0 : Qs) (A : List UInt8) (es : List Ev) : Prop where
  fp : FP w g R P L H p s held hv
  zR : Z R
  zl : ∀ k, P.ln.ownBlock = some k → Z k
  zv : ∀ k, hv.ownBlock = some k → Z k
  acc : Acc P.info L P.b q0 A es p s held ⟨P.ic, P.ii, P.ib, H⟩ P.sh
  al : A.length ≤ n
/-- a connection, gone or not, with all its blocks in Z -/
structure CN (w : World) (g R : Nat) (P : Pv) (H : List UInt8) (Z : Nat → Prop) (n : Nat) : Prop where
  pk : PK w g P
  zg : Z g
  b0 : 64 ≤ P.b
  hs : OW 0 w P.hs H
  zh : ∀ k, P.hs.ownBlock = some k → Z k
  hl : H.length ≤ 140737488351232
  al : P.why = 0 → ∃ L p s held hv q0 A es, CA w g R P H Z n L p s held hv q0 A es
theorem CN.fr {w w' : World} {g R : Nat} {P : Pv} {H : List UInt8} {Z S : Nat → Prop} {n : Nat} (h : CN w g R P H Z n) (f : Fm.Fr S w w') (hz : ∀ k, Z k → S k) (h0 : S 0) (h1 : S 1) : CN w' g R P H Z n := by
  refine ⟨h.pk.keep (f.block g h.pk.lt (hz g h.zg)), h.zg, h.b0, h.hs.frS f (fun k hk => hz k (h.zh k hk)), h.zh, h.hl, fun hw => ?_⟩
  obtain ⟨L, p, s, held, hv, q0, A, es, c⟩ := h.al hw
  exact ⟨L, p, s, held, hv, q0, A, es, c.fp.frZ f (hz g h.zg) (hz R c.zR) h0 h1 (fun k hk => hz k (c.zl k hk)) (fun k hk => hz k (h.zh k hk)) (fun k hk => hz k (c.zv k hk)), c.zR, c.zl, c.zv, c.acc, c.al⟩
theorem CN.below {w w' : World} {g R : Nat} {P : Pv} {H : List UInt8} {Z : Nat → Prop} {n : Nat} (h : CN w g R P H Z n) (hb : Below w.heap.size w w') : CN w' g R P H Z n := h.fr (S := fun _ => True) (Fm.Fr.of_below hb) (fun _ _ => trivial) trivial trivial
theorem CN.mono {w : World} {g R : Nat} {P : Pv} {H : List UInt8} {Z Z' : Nat → Prop} {n : Nat} (h : CN w g R P H Z n) (hz : ∀ k, k < w.heap.size → Z k → Z' k) : CN w g R P H Z' n := by
  refine ⟨h.pk, hz g h.pk.lt h.zg, h.b0, h.hs, fun k hk => hz k (own_ge h.hs hk).2 (h.zh k hk), h.hl, fun hw => ?_⟩
  obtain ⟨L, p, s, held, hv, q0, A, es, c⟩ := h.al hw
  exact ⟨L, p, s, held, hv, q0, A, es, c.fp, hz R c.fp.rk.lt c.zR, fun k hk => hz k (own_ge c.fp.lo hk).2 (c.zl k hk), fun k hk => hz k (own_ge c.fp.ow hk).2 (c.zv k hk), c.acc, c.al⟩
theorem eb_tag {B : Nat} {w : World} {ev : Value} {es : List Ev} (h : EVS B w ev es) {k : Nat} (hk : eb ev es k) : B ≤ k ∧ k < w.heap.size ∧ ∃ cs t, w.heap[k]? = some (.cells cs t (0, 0)) ∧ (t = 49 ∨ t = 25 ∨ (t = 5 ∧ ∃ e ∈ es, e.x.m.d.ownBlock = some k)) := by
  rcases hk with hk | ⟨e, he, hk | hk⟩
  · obtain ⟨h1, h2, cs, h3⟩ := rowTag h.1 hk
    exact ⟨h1, h2, cs, _, h3, .inl rfl⟩
  · obtain ⟨h1, h2, cs, h3⟩ := rowTag (h.2 e he).mg.d hk
    exact ⟨h1, h2, cs, _, h3, .inr (.inr ⟨rfl, e, he, hk⟩)⟩
  · obtain ⟨_, _, hh⟩ := (h.2 e he).mg.h
    obtain ⟨h1, h2, cs, h3⟩ := rowTag hh hk
    exact ⟨h1, h2, cs, _, h3, .inr (.inl rfl)⟩
theorem eb_own {B : Nat} {w : World} {ev : Value} {es : List Ev} (h : EVS B w ev es) {hs : Value} {H : List UInt8} {B' : Nat} (ho : OW B' w hs H) (hd : ∀ e ∈ es, ∀ k, e.x.m.d.ownBlock = some k → hs.ownBlock ≠ some k) {k : Nat} (hk : hs.ownBlock = some k) : ¬ eb ev es k := fun he => by
  obtain ⟨_, _, cs, t, h1, h2⟩ := eb_tag h he
  obtain ⟨_, _, cs', h3⟩ := rowTag ho hk
  rcases h2 with rfl | rfl | ⟨_, e, he, hb⟩
  · exact tag_ne h1 h3 (by decide) rfl
  · exact tag_ne h1 h3 (by decide) rfl
  · exact hd e he k hb hk
/-- what a connection that is not gone is after a step -/
theorem CA.after {w : World} {g R : Nat} {P : Pv} {H : List UInt8} {Z : Nat → Prop} {n m : Nat} {L : List Int} {p s : Nat} {held : List UInt8} {hv : Value} {q0 : Qs} {A : List UInt8} {es : List Ev} (h : CA w g R P H Z n L p s held hv q0 A es) (zg : Z g) (zh : ∀ k, P.hs.ownBlock = some k → Z k) {l : List UInt8} (hl : l.length ≤ m) {e : Ending} {w' : World} (hx : FdE w g R P L H p s held hv l e w') :
    ∃ ev fin es2 met xs q' P', e = .returned (.tuple #[ev, .int .i64 fin]) ∧ EVS w.heap.size w' ev es2 ∧ (es2.filterMap (fun e => e.x.m.d.ownBlock)).Nodup ∧ EvH (es ++ es2) met xs ∧ Tel P.info L P.b q0 (A ++ l) met xs q' fin ∧ Sd w' g P' P.b P.wc P.wi (!met.isEmpty) q' fin ∧ (es ++ es2).length ≤ 1 + (n + m) ∧ CN w' g R P' q'.H (fun k => Z k ∨ (w.heap.size ≤ k ∧ ¬ eb ev es2 k)) (n + m) ∧ Fm.Fr (fun k => ¬ Z k) w w' := by
  obtain ⟨ev, fin, es2, B1, rfl, hB, hes, fr, hcase⟩ := FdE.stepD h.fp hx h.acc
  have fr' : Fm.Fr (fun k => ¬ Z k) w w' := fr.mono (fun k _ hk => ⟨fun e => hk (by rw [e]; exact zg), fun e => hk (by rw [e]; exact h.zR), fun e => hk (h.zv k e)⟩)
  have hAl : (A ++ l).length ≤ n + m := by rw [List.length_append]; have := h.al; omega
  have zz : ∀ k, Z k → Z k ∨ (w.heap.size ≤ k ∧ ¬ eb ev es2 k) := fun k hk => .inl hk
  rcases hcase with ⟨rfl, P2, H2, p2, s2, held2, hv2, ⟨hdq, hhs, hln⟩, hfp2, j1, j2, j3, j4, jv, jb, hacc⟩ | ⟨h0, met, xs, q', P2, ⟨hdq, hhs⟩, htel, heh, hsd⟩
  · obtain ⟨met, xs, htel, heh, hsh⟩ := hacc.tel
    have hzh : ∀ k, P2.hs.ownBlock = some k → Z k ∨ (w.heap.size ≤ k ∧ ¬ eb ev es2 k) := fun k hk => by
      rcases hhs k hk with h1 | h1
      · exact .inl (zh k h1)
      · exact .inr ⟨h1, eb_own hes hfp2.ho hdq.2.1 hk⟩
    have hzv : ∀ k, hv2.ownBlock = some k → Z k ∨ (w.heap.size ≤ k ∧ ¬ eb ev es2 k) := fun k hk => by
      rcases jv with h1 | h1
      · exact .inl (h.zv k (by rw [← h1]; exact hk))
      · exact .inr ⟨h1 k hk, fun he => by have := (eb_tag hes he).1; have := jb k hk; omega⟩
    refine ⟨ev, 0, es2, met, xs, _, P2, rfl, hes.mono hB, hdq.1, heh, htel, ⟨hfp2.pk, hfp2.why, j2, hsh, j3, j4, rfl, rfl, hfp2.ho, hfp2.hl⟩, Nat.le_trans hacc.len (by omega), ⟨hfp2.pk, zz _ zg, hfp2.b0, hfp2.ho, hzh, hfp2.hl, fun _ => ⟨L, p2, s2, held2, hv2, q0, A ++ l, es ++ es2, hfp2, zz _ h.zR, fun k hk => zz _ (h.zl k (by rw [← hln]; exact hk)), hzv, by rw [j1, j2]; exact hacc, hAl⟩⟩, fr'⟩
  · have hzh : ∀ k, P2.hs.ownBlock = some k → Z k ∨ (w.heap.size ≤ k ∧ ¬ eb ev es2 k) := fun k hk => by
      rcases hhs k hk with h1 | h1
      · exact .inl (zh k h1)
      · exact .inr ⟨h1, eb_own hes hsd.hs hdq.2.1 hk⟩
    exact ⟨ev, fin, es2, met, xs, q', P2, rfl, hes.mono hB, hdq.1, heh, htel, hsd, Nat.le_trans (htel.len heh) (by omega), ⟨hsd.pk, zz _ zg, by rw [hsd.b]; exact h.fp.b0, hsd.hs, hzh, hsd.hl, fun h9 => absurd (hsd.why.symm.trans h9) h0⟩, fr'⟩
/-- a Feed of any connection -/
theorem CN.feed {w : World} {g R : Nat} {P : Pv} {H : List UInt8} {Z : Nat → Prop} {n m : Nat} (h : CN w g R P H Z n) (bv : Value) (l : List UInt8) (hb : Fm.RN (fun k => ¬ Z k) w bv l) (hl : l.length ≤ m) (hm : m ≤ 16777216) :
    Calls Tryz.prog 13 #[.pointer (some ⟨g, 0, none⟩), bv] w fun e w' => ∃ ev fin es P' H', e = .returned (.tuple #[ev, .int .i64 fin]) ∧ EVS w.heap.size w' ev es ∧ (es.filterMap (fun e => e.x.m.d.ownBlock)).Nodup ∧ es.length ≤ 1 + (n + m) ∧ CN w' g R P' H' (fun k => Z k ∨ (w.heap.size ≤ k ∧ ¬ eb ev es k)) (n + m) ∧ Fm.Fr (fun k => ¬ Z k) w w' := by
  by_cases hw : P.why = 0
  · obtain ⟨L, p, s, held, hv, q0, A, es, c⟩ := h.al hw
    refine (feedT w g R P L H p s held hv c.fp bv l (hb.move (fun k hk e => hk (c.zv k e)) (fun _ _ _ _ => rfl)) (by omega)).mono ?_
    intro e w' hx
    obtain ⟨ev, fin, es2, met, xs, q', P', rfl, h1, h2, h3, h4, h5, h6, h7, h8⟩ := c.after h.zg h.zh hl hx
    exact ⟨ev, fin, es2, P', q'.H, rfl, h1, h2, by rw [List.length_append] at h6; omega, h7, h8⟩
  · obtain ⟨a, c, rfl, _⟩ := hb
    refine (feedGone w g P h.pk (by have := h.b0; omega) hw a l.length c).mono ?_
    rintro e w' ⟨rfl, rfl⟩
    refine ⟨_, _, [], P, H, rfl, EVS.nil _ _, List.nodup_nil, Nat.zero_le _, ?_, Fm.Fr.refl _ _⟩
    have := h.mono (Z' := fun k => Z k ∨ (w'.heap.size ≤ k ∧ ¬ eb (.slice none 0 0) [] k)) (fun k _ hk => .inl hk)
    exact ⟨this.pk, this.zg, this.b0, this.hs, this.zh, this.hl, fun h9 => absurd h9 hw⟩
theorem CN.state {w : World} {g R : Nat} {P : Pv} {H : List UInt8} {Z : Nat → Prop} {n : Nat} (h : CN w g R P H Z n) :
    Calls Tryz.prog 14 #[.pointer (some ⟨g, 0, none⟩)] w fun e w' => ∃ hv, e = .returned (.agg #[.bool P.sh, .bool (P.why != 0), .int .i64 P.why, .bool P.wc, .bool P.wi, .bool P.ic, .bool P.ii, hv]) ∧ OW w.heap.size w' hv H ∧ Below w.heap.size w w' :=
  stateT w g P h.pk (by have := h.b0; omega) H h.hs.rb h.hl
theorem EVS.frS {S : Nat → Prop} {B : Nat} {w w' : World} {v : Value} {es : List Ev} (h : EVS B w v es) (f : Fm.Fr S w w') (hs : ∀ k, eb v es k → S k) : EVS B w' v es :=
  ⟨rowFr h.1 f (fun k hk => hs k (.inl hk)), fun e he => ⟨(h.2 e he).pr, (h.2 e he).mg.ok, (h.2 e he).mg.d.frS f (fun k hk => hs k (.inr ⟨e, he, .inl hk⟩)), (by
    obtain ⟨n, en, hh⟩ := (h.2 e he).mg.h
    exact ⟨n, en, rowFr hh f (fun k hk => hs k (.inr ⟨e, he, .inr hk⟩))⟩), (h.2 e he).mg.dl, (h.2 e he).mg.hl⟩⟩
end Go.Proofs.YtnmeohacdbmplaaGreatDoor
