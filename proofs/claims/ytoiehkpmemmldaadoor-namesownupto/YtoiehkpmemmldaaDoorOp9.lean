import Derived.Test.YtoiehkpmemmldaaDoorOs
namespace Go.Proofs.YtoiehkpmemmldaaDoor
open Go.Shelf Go.RowKit Go.Lib Go.Sort
theorem eg21 : ∀ args w, (callFunc 23 args).run Tryd.prog w = .ok (.enter 23 args) w := enters_of Tryd.func23 (by kernel_rfl) rfl
/-- a block of so many numbers -/
def BXn (w : World) (g n : Nat) : Prop := ∃ cs : Array Value, w.heap[g]? = some (.cells cs 3 (0, 0)) ∧ cs.size = n
/-- the sort of the places -/
theorem sorted20 (v : Value) (L : List (List ByteArray)) (G B : Nat) (w : World) (hf : PF L) (h4 : L.length ≤ 4096) (hn : ND L) (hB : B2 w B v) (hr : PR w L v) (hR : RI w G (List.range L.length)) (hBG : B < G) (hlo : ∀ W, Go.RowKit.Below G w W → PR W L v) :
    Calls Tryd.prog 22 #[.slice (some ⟨G, 0, none⟩) L.length L.length, .func (.func 23) #[] #[.pointer (some ⟨B, 0, none⟩)]] w fun e w' =>
      e = .returned (.tuple #[]) ∧ ∃ l, SP L l ∧ IR w' l (.slice (some ⟨G, 0, none⟩) L.length L.length) ∧ Go.RowKit.Below G w w' ∧ BXn w' G L.length := by
  by_cases h0 : L.length = 0
  · have hcon := AnyF.slices_SortFunc_none (P := Tryd.prog) (ρ := sort20_ren) { sort20 with } (some ⟨G, 0, none⟩) L.length (.func (.func 23) #[] #[.pointer (some ⟨B, 0, none⟩)]) w
    change Calls Tryd.prog 22 _ _ _ at hcon
    rw [h0] at hcon ⊢
    refine hcon.mono ?_
    rintro e w' ⟨rfl, rfl⟩
    refine ⟨rfl, [], ⟨by rw [h0]; exact List.Perm.refl _, fun i j _ hj => by omega⟩, ⟨_, _, rfl, .inl rfl⟩, Go.RowKit.Below.refl _ _, _, hR, by simp [h0]⟩
  · haveI : Inhabited (Fin L.length) := ⟨⟨0, by omega⟩⟩
    obtain ⟨d, hd⟩ : ∃ d : Array (Fin L.length), d = (List.finRange L.length).toArray := ⟨_, rfl⟩
    have hds : d.size = L.length := by rw [hd]; simp
    have hdl : d.toList.map (·.val) = List.range L.length := by
      rw [hd]
      refine List.ext_getElem (by simp) fun i h1 h2 => ?_
      simp
    have hdi : ∀ j (hj : j < d.size), (d[j]!).val = j := fun j hj => by
      rw [getElem!_pos d j hj]
      simp [hd]
    have hH : Holds (enF L.length) w G 0 d := fun j hj => by
      have := hR.facts (k := j) (by rw [List.length_range]; omega)
      rw [Nat.zero_add]
      refine ⟨?_, this.2⟩
      rw [this.1]
      unfold enF
      rw [hdi j hj]
      simp [List.getD_eq_getElem?_getD, List.getElem?_range (by omega : j < L.length)]
    have hcmp : CmpReads Tryd.prog 23 #[.pointer (some ⟨B, 0, none⟩)] (enF L.length) (fun x y : Fin L.length => cl (la L x) (la L y)) G 0 d.size w := fun m os dk _ x y => by
      have hbl := sw_below (enF L.length) w G 0 m dk os hR.lt
      have hB' : B2 (sortWorld (enF L.length) w G 0 m dk os) B v := (hbl.block B hBG).trans hB
      exact closure21 v L x y B _ hf x.isLt y.isLt hB' (hlo _ hbl)
    have hcon := Any.slices_SortFunc sort20 (enF L.length) (fun _ => rfl) (fun x y : Fin L.length => cl (la L x) (la L y)) (swo L) 23 #[.pointer (some ⟨B, 0, none⟩)] G 0 L.length d w eg21 hcmp.lays hH hR.lt (by omega)
    change Calls Tryd.prog 22 _ _ _ at hcon
    rw [hds] at hcon
    refine hcon.mono ?_
    rintro e w' ⟨rfl, d', m, os, hp, hs, rfl⟩
    obtain ⟨hsp, hsz⟩ := sp_of hn hdl (by rw [hds]; exact hp) (by rw [hds]; exact hs)
    have hbl := sw_below (enF L.length) w G 0 m d' os hR.lt
    refine ⟨rfl, _, hsp, ⟨_, L.length, by rw [hsp.len], .inr ⟨G, 0, rfl, ?_, fun i hi => ?_⟩⟩, hbl, ?_⟩
    · have := hR.lt; simp [sortWorld, grow]; omega
    · rw [hsp.len] at hi
      have hi' : i < d'.size := by omega
      have e1 : (d'.toList.map (·.val)).getD i 0 = (d'[i]).val := by simp [List.getD_eq_getElem?_getD, hi']
      rw [e1]
      have hc := cell?_putRow (enF L.length) (Sort.ahead w m) G 0 d d' (holds_ahead _ _ _ _ _ _ hH) (by omega) i hi'
      have hg : (sortWorld (enF L.length) w G 0 m d' os).cell? ⟨G, 0 + i, none⟩ = (putRow (enF L.length) (Sort.ahead w m) G 0 d').cell? ⟨G, 0 + i, none⟩ := by
        refine World.cell?_of_block ?_
        unfold sortWorld grow
        simp only
        rw [Array.getElem?_append_left (by simp; exact hR.lt)]
      rw [hg, hc, getElem!_pos d' i hi']
      rfl
    · refine ⟨putCells (enF L.length) 0 d' ((List.range L.length).map (fun i : Nat => Value.int .i64 (i : Int))).toArray, ?_, ?_⟩
      · unfold sortWorld grow
        simp only
        rw [Array.getElem?_append_left (by simp; exact hR.lt)]
        unfold putRow mapBlock
        simp only [heap_ahead]
        rw [Array.getElem?_modify, if_pos rfl, hR]
        rfl
      · simp [putCells]
end Go.Proofs.YtoiehkpmemmldaaDoor
