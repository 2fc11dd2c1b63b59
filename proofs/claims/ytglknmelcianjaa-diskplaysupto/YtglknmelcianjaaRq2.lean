import Derived.Test.YtglknmelcianjaaRp2
namespace Go.Proofs.Ytglknmelcianjaa
open Go.RowKit
section
variable {Sa Sb : Nat → Prop} {w : World} {va vb : Value} {o : Option Dk}
set_option maxHeartbeats 2000000 in
set_option maxRecDepth 100000 in
theorem askedT (h : PD Sa Sb w va vb o) (hn : nW o ≤ 1073741824) (kind who to_ at_ torn cut : Int) (da ka : Option Addr) (dn dc kn kc : Nat) (hk : kind = 4 ∨ kind = 6 ∨ kind = 8 ∨ kind = 9) :
    Calls Try.prog 12 #[.agg #[.int .i64 kind, .int .i64 who, .int .i64 to_, .int .i64 at_, .slice da dn dc, .slice ka kn kc, .int .i64 torn, .int .i64 cut], va, vb] w fun e w' => e = .returned (.bool true) ∧ Below w.heap.size w w' := by
  have hb := heapNew w (.cells #[.int .i64 kind, .int .i64 who, .int .i64 to_, .int .i64 at_, .slice da dn dc, .slice ka kn kc, .int .i64 torn, .int .i64 cut] 30)
  have b1 : Below w.heap.size w (w.alloc (.cells #[.int .i64 kind, .int .i64 who, .int .i64 to_, .int .i64 at_, .slice da dn dc, .slice ka kn kc, .int .i64 torn, .int .i64 cut] 30)) := (Below.refl _ _).alloc (Nat.le_refl _) _
  have hz : (w.alloc (.cells #[.int .i64 kind, .int .i64 who, .int .i64 to_, .int .i64 at_, .slice da dn dc, .slice ka kn kc, .int .i64 torn, .int .i64 cut] 30)).heap.size = w.heap.size + 1 := by simp
  have HB : Hid (∀ w', Below (w.heap.size + 1) (w.alloc (.cells #[.int .i64 kind, .int .i64 who, .int .i64 to_, .int .i64 at_, .slice da dn dc, .slice ka kn kc, .int .i64 torn, .int .i64 cut] 30)) w' → w'.cell? ⟨w.heap.size, 0, none⟩ = some (.int .i64 kind) ∧ w'.cell? ⟨w.heap.size, 3, none⟩ = some (.int .i64 at_) ∧ Below w.heap.size w w' ∧ PD Sa Sb w' va vb o ∧ w.heap.size + 1 ≤ w'.heap.size) := fun w' hw => by
    have h1 : w'.heap[w.heap.size]? = _ := (hw.block w.heap.size (by omega)).trans hb
    have h2 := b1.trans (hw.mono (Nat.le_succ _))
    exact ⟨by simp [World.cell?, h1], by simp [World.cell?, h1], h2, h.below h2, by have := hw.size; omega⟩
  have HL := Lib.hid (h.lens hn at_)
  have H0 := Lib.hid (HB.out _ (Below.refl _ _))
  have hc0 := H0.out.1
  have hc3 := H0.out.2.1
  have HN := Lib.hid hn
  clear hb b1 hz hn h
  rcases hk with rfl | rfl | rfl | rfl
  · go_enter Try.func12, Try.ntmps12
    go_wp2_with fail
    refine (qread H0.out.2.2.2.1 at_).mono ?_
    rintro e w1 ⟨a1, c1, rfl, r1, b1⟩
    have H1 : Hid (RB w1 (.slice a1 (rdL at_ o).length c1) (rdL at_ o) ∧ Below (w.heap.size + 1) _ w1) := ⟨r1, b1.mono H0.out.2.2.2.2⟩
    have HX1 := Lib.hid (HB.out _ H1.out.2)
    have hc31 := HX1.out.2.1
    clear r1 b1
    go_wp2_with fail
    refine (qrread HX1.out.2.2.2.1 HN.out at_).mono ?_
    rintro e w2 ⟨a2, c2, rfl, r2, b2⟩
    have H2 : Hid (RB w2 (.slice a1 (rdL at_ o).length c1) (rdL at_ o) ∧ RB w2 (.slice a2 (rdL at_ o).length c2) (rdL at_ o) ∧ Below w.heap.size w w2) := ⟨H1.out.1.keep b2, r2, HX1.out.2.2.1.trans (b2.mono HX1.out.2.2.1.size)⟩
    clear r2 b2
    go_wp2_with fail
    refine (same _ _ (rdL at_ o) w2 (by have := HL.out.1; omega) H2.out.1 H2.out.2.1).mono ?_
    rintro e w3 ⟨rfl, nn, rfl⟩
    have HE : Hid (Below w.heap.size w (w2.drewN nn)) := H2.out.2.2.trans ((belowDrew w2 nn).mono H2.out.2.2.size)
    go_wp2_with fail
    go_ret
    exact ⟨rfl, HE.out⟩
  · go_enter Try.func12, Try.ntmps12
    go_wp2_with fail
    refine (qpend H0.out.2.2.2.1 HN.out).mono ?_
    rintro e w1 ⟨a1, c1, rfl, r1, b1⟩
    have H1 : Hid (RN w1 (.slice a1 (peL o).length c1) (peL o) ∧ Below (w.heap.size + 1) _ w1) := ⟨r1, b1.mono H0.out.2.2.2.2⟩
    have HX1 := Lib.hid (HB.out _ H1.out.2)
    clear r1 b1
    go_wp2_with fail
    refine (qrpend HX1.out.2.2.2.1 HN.out).mono ?_
    rintro e w2 ⟨a2, c2, rfl, r2, b2⟩
    have H2 : Hid (RN w2 (.slice a1 (peL o).length c1) (peL o) ∧ RN w2 (.slice a2 (peL o).length c2) (peL o) ∧ Below w.heap.size w w2 ∧ PD Sa Sb w2 va vb o) := ⟨H1.out.1.keep b2, r2, HX1.out.2.2.1.trans (b2.mono HX1.out.2.2.1.size), HX1.out.2.2.2.1.below b2⟩
    clear r2 b2
    go_wp2_with fail
    refine (intsame _ _ (peL o) w2 HL.out.2.2.2 H2.out.1 H2.out.2.1).mono ?_
    rintro e w3 ⟨rfl, nn, rfl⟩
    have HE : Hid (Below w.heap.size w (w2.drewN nn) ∧ PD Sa Sb (w2.drewN nn) va vb o) := ⟨H2.out.2.2.1.trans ((belowDrew w2 nn).mono H2.out.2.2.1.size), H2.out.2.2.2.below (belowDrew w2 nn)⟩
    go_wp2_with fail
    refine (qsize HE.out.2).mono ?_
    rintro e w4 ⟨rfl, rfl⟩
    go_wp2_with fail
    refine (qrsize HE.out.2).mono ?_
    rintro e w5 ⟨rfl, rfl⟩
    go_wp2_with fail
    go_ret
    exact ⟨rfl, HE.out.1⟩
  · go_enter Try.func12, Try.ntmps12
    go_wp2_with fail
    refine (qimage H0.out.2.2.2.1).mono ?_
    rintro e w1 ⟨a1, c1, rfl, r1, b1⟩
    have H1 : Hid (RB w1 (.slice a1 (imL o).length c1) (imL o) ∧ Below (w.heap.size + 1) _ w1) := ⟨r1, b1.mono H0.out.2.2.2.2⟩
    have HX1 := Lib.hid (HB.out _ H1.out.2)
    clear r1 b1
    go_wp2_with fail
    refine (qrimage HX1.out.2.2.2.1 HN.out).mono ?_
    rintro e w2 ⟨a2, c2, rfl, r2, b2⟩
    have H2 : Hid (RB w2 (.slice a1 (imL o).length c1) (imL o) ∧ RB w2 (.slice a2 (imL o).length c2) (imL o) ∧ Below w.heap.size w w2) := ⟨H1.out.1.keep b2, r2, HX1.out.2.2.1.trans (b2.mono HX1.out.2.2.1.size)⟩
    clear r2 b2
    go_wp2_with fail
    refine (same _ _ (imL o) w2 (by have := HL.out.2.1; omega) H2.out.1 H2.out.2.1).mono ?_
    rintro e w3 ⟨rfl, nn, rfl⟩
    have HE : Hid (Below w.heap.size w (w2.drewN nn)) := H2.out.2.2.trans ((belowDrew w2 nn).mono H2.out.2.2.size)
    go_wp2_with fail
    go_ret
    exact ⟨rfl, HE.out⟩
  · go_enter Try.func12, Try.ntmps12
    go_wp2_with fail
    refine (qdur H0.out.2.2.2.1).mono ?_
    rintro e w1 ⟨a1, c1, rfl, r1, b1⟩
    have H1 : Hid (RB w1 (.slice a1 (duL o).length c1) (duL o) ∧ Below (w.heap.size + 1) _ w1) := ⟨r1, b1.mono H0.out.2.2.2.2⟩
    have HX1 := Lib.hid (HB.out _ H1.out.2)
    clear r1 b1
    go_wp2_with fail
    refine (qrdur HX1.out.2.2.2.1).mono ?_
    rintro e w2 ⟨a2, c2, rfl, r2, b2⟩
    have H2 : Hid (RB w2 (.slice a1 (duL o).length c1) (duL o) ∧ RB w2 (.slice a2 (duL o).length c2) (duL o) ∧ Below w.heap.size w w2) := ⟨H1.out.1.keep b2, r2, HX1.out.2.2.1.trans (b2.mono HX1.out.2.2.1.size)⟩
    clear r2 b2
    go_wp2_with fail
    refine (same _ _ (duL o) w2 (by have := HL.out.2.2.1; omega) H2.out.1 H2.out.2.1).mono ?_
    rintro e w3 ⟨rfl, nn, rfl⟩
    have HE : Hid (Below w.heap.size w (w2.drewN nn)) := H2.out.2.2.trans ((belowDrew w2 nn).mono H2.out.2.2.size)
    go_wp2_with fail
    go_ret
    exact ⟨rfl, HE.out⟩
end
end Go.Proofs.Ytglknmelcianjaa
