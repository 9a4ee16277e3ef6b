/- Laid together: RdMath, AclRdM. -/
import Derived.Test.YtgooanaacebncaaDoorRA17
import Derived.Test.YtgooanaacebncaaDoorRA2
import Derived.Test.YtgooanaacebncaaDoorRA20
/- Three signs read back: which bits they are. Nothing here names a program. -/
namespace Go.Proofs.YtgooanaacebncaaDoor
open Go.RowKit Go.PlainAid
set_option linter.unusedVariables false
/-- The bits whose three signs a text is. -/
def rdB (s : ByteArray) : Option Nat := (List.range 8).find? fun n => decide (bitsT n = s)
theorem rdB_some {s : ByteArray} {n : Nat} (hn : n ≤ 7) (h : bitsT n = s) : rdB s = some n := by
  subst h
  rcases eight hn with rfl | rfl | rfl | rfl | rfl | rfl | rfl | rfl <;> decide
theorem rdB_none {s : ByteArray} (h : ∀ n, n ≤ 7 → bitsT n ≠ s) : rdB s = none := by
  unfold rdB
  rw [List.find?_eq_none]
  intro n hn
  rw [List.mem_range] at hn
  simp [h n (by omega)]
theorem rdB_size {s : ByteArray} (h : s.size ≠ 3) : rdB s = none := rdB_none fun n _ e => h (by rw [← e]; rfl)
theorem ext3 {s : ByteArray} {a b c : UInt8} (hs : s.size = 3) (h0 : bt s 0 = (a.toNat : Int)) (h1 : bt s 1 = (b.toNat : Int)) (h2 : bt s 2 = (c.toNat : Int)) : s = ⟨#[a, b, c]⟩ := by
  obtain ⟨⟨l⟩⟩ := s
  have hl : l.length = 3 := hs
  match l, hl with
  | [x, y, z], _ =>
    have e0 : x.toNat = a.toNat := by
      have : bt ⟨⟨[x, y, z]⟩⟩ 0 = (x.toNat : Int) := rfl
      omega
    have e1 : y.toNat = b.toNat := by
      have : bt ⟨⟨[x, y, z]⟩⟩ 1 = (y.toNat : Int) := rfl
      omega
    have e2 : z.toNat = c.toNat := by
      have : bt ⟨⟨[x, y, z]⟩⟩ 2 = (z.toNat : Int) := rfl
      omega
    rw [UInt8.toNat_inj.1 e0, UInt8.toNat_inj.1 e1, UInt8.toNat_inj.1 e2]
theorem bitsT_bt (n : Nat) : bt (bitsT n) 0 = ((sg (b4 n) 114).toNat : Int) ∧ bt (bitsT n) 1 = ((sg (b2 n) 119).toNat : Int) ∧ bt (bitsT n) 2 = ((sg (b1 n) 120).toNat : Int) := ⟨rfl, rfl, rfl⟩
theorem rd_bad0 {s : ByteArray} (h1 : bt s 0 ≠ 114) (h2 : bt s 0 ≠ 45) : rdB s = none := rdB_none fun n _ e => by
  have := (bitsT_bt n).1
  rw [e, sg_toNat] at this
  split at this
  · exact h1 this
  · exact h2 this
theorem rd_bad1 {s : ByteArray} (h1 : bt s 1 ≠ 119) (h2 : bt s 1 ≠ 45) : rdB s = none := rdB_none fun n _ e => by
  have := (bitsT_bt n).2.1
  rw [e, sg_toNat] at this
  split at this
  · exact h1 this
  · exact h2 this
theorem rd_bad2 {s : ByteArray} (h1 : bt s 2 ≠ 120) (h2 : bt s 2 ≠ 45) : rdB s = none := rdB_none fun n _ e => by
  have := (bitsT_bt n).2.2
  rw [e, sg_toNat] at this
  split at this
  · exact h1 this
  · exact h2 this
/-- Two answers of readBits, readOct and the like: the number, and whether there is one. -/
def optV (o : Option Nat) : Value := .tuple #[.int .i64 (o.getD 0 : Nat), .bool o.isSome]
def Al.T (a : Al) : ByteArray := aclT a.u a.g a.o a.us a.gs a.r a.m
/-- The bits of a piece. -/
def bitsN (b : List UInt8) : Int := ((rdB ⟨b.toArray⟩).getD 0 : Nat)
/-- Three pieces, taken in. -/
def entK (a : Al) (k i b : List UInt8) : Al :=
  if k = usrW.data.toList ∧ i = [] then { a with u := bitsN b }
  else if k = grpW.data.toList ∧ i = [] then { a with g := bitsN b }
  else if k = usrW.data.toList then { a with us := a.us ++ [(numI i, bitsN b)] }
  else if k = grpW.data.toList then { a with gs := a.gs ++ [(numI i, bitsN b)] }
  else if k = mskW.data.toList then { a with r := true, m := bitsN b }
  else if k = othW.data.toList then { a with o := bitsN b }
  else a
/-- l05Entry. -/
def entS (a : Al) (t : List UInt8) : Al := match spl 58 t with
  | [k, i, b] => entK a k i b
  | _ => a
/-- May three pieces be an entry? -/
def okK (k i b : List UInt8) : Bool := (rdB ⟨b.toArray⟩).isSome && (if i = [] then decide (k = usrW.data.toList) || (decide (k = grpW.data.toList) || (decide (k = mskW.data.toList) || decide (k = othW.data.toList))) else (rdI i).isSome && (decide (k = usrW.data.toList) || decide (k = grpW.data.toList)))
def okE (t : List UInt8) : Bool := match spl 58 t with
  | [k, i, b] => okK k i b
  | _ => false
theorem bits8 : ∀ n, n < 8 → (58 : UInt8) ∉ (bitsT n).data.toList ∧ (44 : UInt8) ∉ (bitsT n).data.toList ∧ rdB (bitsT n) = some n ∧ (⟨(bitsT n).data.toList.toArray⟩ : ByteArray) = bitsT n := by
  intro n hn
  refine ⟨?_, ?_, rdB_some (by omega) rfl, by apply ByteArray.ext; simp⟩
  · have : ∀ n, n < 8 → (58 : UInt8) ∉ (bitsT n).data.toList := by decide +kernel
    exact this n hn
  · have : ∀ n, n < 8 → (44 : UInt8) ∉ (bitsT n).data.toList := by decide +kernel
    exact this n hn
theorem bits_in {b : Int} (h0 : 0 ≤ b) (h7 : b ≤ 7) : (58 : UInt8) ∉ (bitsS b).data.toList ∧ (44 : UInt8) ∉ (bitsS b).data.toList ∧ bitsN (bitsS b).data.toList = b ∧ (rdB ⟨(bitsS b).data.toList.toArray⟩).isSome = true := by
  obtain ⟨n, rfl⟩ := Int.eq_ofNat_of_zero_le h0
  rw [bitsS_in (by omega)]
  obtain ⟨h1, h2, h3, h4⟩ := bits8 n (by omega)
  refine ⟨h1, h2, ?_, ?_⟩
  · rw [bitsN, h4, h3]; rfl
  · rw [h4, h3]; rfl
/-- The text of an entry, cut. -/
theorem ent_cut {word id : ByteArray} {b : Int} (hw : (58 : UInt8) ∉ word.data.toList) (hi : (58 : UInt8) ∉ id.data.toList) (h0 : 0 ≤ b) (h7 : b ≤ 7) : spl 58 (entT word id b).data.toList = [word.data.toList, id.data.toList, (bitsS b).data.toList] := by
  have e : (entT word id b).data.toList = word.data.toList ++ 58 :: (id.data.toList ++ 58 :: (bitsS b).data.toList) := by
    simp [entT, ByteArray.data_append]
  rw [e, spl_first hw, spl_first hi, spl_none (bits_in h0 h7).1]
theorem ent_comma {word id : ByteArray} {b : Int} (hw : (44 : UInt8) ∉ word.data.toList) (hi : (44 : UInt8) ∉ id.data.toList) (h0 : 0 ≤ b) (h7 : b ≤ 7) : (44 : UInt8) ∉ (entT word id b).data.toList := by
  have h1 := (bits_in h0 h7).2.1
  simp only [entT, ByteArray.data_append, Array.toList_append, List.mem_append, not_or]
  exact ⟨⟨⟨⟨hw, by decide⟩, hi⟩, by decide⟩, h1⟩
theorem dec_l (n : Nat) : (decT n).data.toList = Lib.decDigits n := by simp [decT]
theorem dec_ne (n : Nat) : Lib.decDigits n ≠ [] := (dec_right n n (Nat.le_refl _)).2.2.2
/-- An entry of somebody who is named, read. -/
theorem nm_read {word : ByteArray} {l : List (Int × Int)} (h : nmB l = true) {k : Nat} (hk : k < l.length) (hw : (58 : UInt8) ∉ word.data.toList) (hw2 : (44 : UInt8) ∉ word.data.toList) (hu : word = usrW ∨ word = grpW) (a : Al) :
    okE (nmE word l k).data.toList = true ∧ (44 : UInt8) ∉ (nmE word l k).data.toList ∧ entS a (nmE word l k).data.toList = if word.data.toList = usrW.data.toList then { a with us := a.us ++ [(idAt l k, btAt l k)] } else { a with gs := a.gs ++ [(idAt l k, btAt l k)] } := by
  obtain ⟨⟨i0, i9⟩, b0, b7⟩ := ok_at h hk
  have hd : (58 : UInt8) ∉ (decT (idAt l k).toNat).data.toList := by rw [dec_l]; exact dec_no (by decide)
  have hd2 : (44 : UInt8) ∉ (decT (idAt l k).toNat).data.toList := by rw [dec_l]; exact dec_no (by decide)
  have hc := ent_cut hw hd b0 b7
  obtain ⟨r1, r2⟩ := dec_read (n := (idAt l k).toNat) (by omega)
  obtain ⟨_, _, hb, hb2⟩ := bits_in b0 b7
  have hid : numI (decT (idAt l k).toNat).data.toList = idAt l k := by rw [dec_l, r2]; omega
  have hne : (decT (idAt l k).toNat).data.toList ≠ [] := by rw [dec_l]; exact dec_ne _
  have hri : (rdI (decT (idAt l k).toNat).data.toList).isSome = true := by rw [dec_l, r1]; rfl
  refine ⟨?_, ent_comma hw2 hd2 b0 b7, ?_⟩
  · rw [okE, nmE, hc]
    simp only [okK, hb2, if_neg hne, hri]
    rcases hu with rfl | rfl <;> decide
  · rw [entS, nmE, hc]
    simp only [entK, hne, and_false, if_false, hid, hb]
    rcases hu with rfl | rfl
    · simp
    · have : ¬ grpW.data.toList = usrW.data.toList := by decide
      simp [this]
/-- An entry of nobody who is named, read. -/
theorem pl_read {word : ByteArray} {b : Int} (hw : (58 : UInt8) ∉ word.data.toList) (hw2 : (44 : UInt8) ∉ word.data.toList) (h0 : 0 ≤ b) (h7 : b ≤ 7) (a : Al) :
    okE (entT word noT b).data.toList = (decide (word.data.toList = usrW.data.toList) || (decide (word.data.toList = grpW.data.toList) || (decide (word.data.toList = mskW.data.toList) || decide (word.data.toList = othW.data.toList)))) ∧ (44 : UInt8) ∉ (entT word noT b).data.toList ∧ entS a (entT word noT b).data.toList = entK a word.data.toList [] (bitsS b).data.toList ∧ bitsN (bitsS b).data.toList = b := by
  have hc := ent_cut (id := noT) hw (by decide) h0 h7
  have hn : noT.data.toList = [] := rfl
  rw [hn] at hc
  obtain ⟨_, _, hb, hb2⟩ := bits_in h0 h7
  refine ⟨?_, ent_comma hw2 (by decide) h0 h7, ?_, hb⟩
  · rw [okE, hc]
    simp only [okK, hb2, if_true, Bool.true_and]
  · rw [entS, hc]
def Al.L (a : Al) : List (List UInt8) := (aclL a.u a.g a.o a.us a.gs a.r a.m).map (·.data.toList)
theorem fold_us {l : List (Int × Int)} (h : nmB l = true) (a : Al) : ∀ k, k ≤ l.length → ((nmL usrW l k).map (·.data.toList)).foldl entS a = { a with us := a.us ++ l.take k } ∧ (∀ p ∈ (nmL usrW l k).map (·.data.toList), okE p = true ∧ (44 : UInt8) ∉ p) := by
  intro k
  induction k with
  | zero => intro _; simp [nmL]
  | succ k ih =>
    intro hk
    obtain ⟨h1, h2⟩ := ih (by omega)
    obtain ⟨r1, r2, r3⟩ := nm_read (word := usrW) h (show k < l.length by omega) (by decide) (by decide) (.inl rfl) { a with us := a.us ++ l.take k }
    rw [nmL_snoc, List.map_append, List.map_singleton, List.foldl_append, h1]
    refine ⟨?_, fun p hp => ?_⟩
    · simp only [List.foldl_cons, List.foldl_nil]
      rw [r3, if_pos rfl, take_next2 (by omega)]
      simp
    · rcases List.mem_append.1 hp with hp | hp
      · exact h2 p hp
      · rw [List.mem_singleton.1 hp]; exact ⟨r1, r2⟩
theorem fold_gs {l : List (Int × Int)} (h : nmB l = true) (a : Al) : ∀ k, k ≤ l.length → ((nmL grpW l k).map (·.data.toList)).foldl entS a = { a with gs := a.gs ++ l.take k } ∧ (∀ p ∈ (nmL grpW l k).map (·.data.toList), okE p = true ∧ (44 : UInt8) ∉ p) := by
  intro k
  induction k with
  | zero => intro _; simp [nmL]
  | succ k ih =>
    intro hk
    obtain ⟨h1, h2⟩ := ih (by omega)
    obtain ⟨r1, r2, r3⟩ := nm_read (word := grpW) h (show k < l.length by omega) (by decide) (by decide) (.inr rfl) { a with gs := a.gs ++ l.take k }
    rw [nmL_snoc, List.map_append, List.map_singleton, List.foldl_append, h1]
    refine ⟨?_, fun p hp => ?_⟩
    · simp only [List.foldl_cons, List.foldl_nil]
      rw [r3, if_neg (by decide), take_next2 (by omega)]
      simp
    · rcases List.mem_append.1 hp with hp | hp
      · exact h2 p hp
      · rw [List.mem_singleton.1 hp]; exact ⟨r1, r2⟩
/-- The entries of a right list, read one behind the other. -/
theorem acl_back {a : Al} (h : a.B = true) : a.L.foldl entS alZ = a ∧ (∀ p ∈ a.L, okE p = true ∧ (44 : UInt8) ∉ p) ∧ a.L.length ≤ 16 ∧ a.L ≠ [] := by
  obtain ⟨u, g, o, us, gs, r, m⟩ := a
  have hB : aclB u g o us gs r m = true := h
  obtain ⟨nu, ng⟩ := acl_facts hB
  obtain ⟨_, ln⟩ := aclL_sizes (u := u) (g := g) (o := o) (r := r) (m := m) nu ng
  simp only [aclB, Bool.and_eq_true, inR_iff] at hB
  obtain ⟨hu, hg, ho, hm, _, _, hr⟩ := hB
  obtain ⟨u1, u2, u3, u4⟩ := pl_read (word := usrW) (b := u) (by decide) (by decide) hu.1 hu.2 alZ
  obtain ⟨fu1, fu2⟩ := fold_us nu (entS alZ (entT usrW noT u).data.toList) us.length (Nat.le_refl _)
  have hall : ∀ (A : Al), _ := fun A => pl_read (word := grpW) (b := g) (by decide) (by decide) hg.1 hg.2 A
  have hallm : ∀ (A : Al), _ := fun A => pl_read (word := mskW) (b := m) (by decide) (by decide) hm.1 hm.2 A
  have hallo : ∀ (A : Al), _ := fun A => pl_read (word := othW) (b := o) (by decide) (by decide) ho.1 ho.2 A
  have e1 : entS alZ (entT usrW noT u).data.toList = { alZ with u := u } := by
    rw [u3]
    simp [entK, u4]
  have k1 : ∀ A : Al, entS A (entT grpW noT g).data.toList = { A with g := g } := fun A => by
    rw [(hall A).2.2.1]
    have n1 : ¬ grpW.data.toList = usrW.data.toList := by decide
    simp [entK, (hall A).2.2.2, n1]
  have k2 : ∀ A : Al, entS A (entT mskW noT m).data.toList = { A with r := true, m := m } := fun A => by
    rw [(hallm A).2.2.1]
    have n1 : ¬ mskW.data.toList = usrW.data.toList := by decide
    have n2 : ¬ mskW.data.toList = grpW.data.toList := by decide
    simp [entK, (hallm A).2.2.2, n1, n2]
  have k3 : ∀ A : Al, entS A (entT othW noT o).data.toList = { A with o := o } := fun A => by
    rw [(hallo A).2.2.1]
    have n1 : ¬ othW.data.toList = usrW.data.toList := by decide
    have n2 : ¬ othW.data.toList = grpW.data.toList := by decide
    have n3 : ¬ othW.data.toList = mskW.data.toList := by decide
    simp [entK, (hallo A).2.2.2, n1, n2, n3]
  rw [e1] at fu1
  have fg := fun A => fold_gs ng A gs.length (Nat.le_refl _)
  have hL : Al.L ⟨u, g, o, us, gs, r, m⟩ = (if r then [(entT usrW noT u).data.toList] ++ (nmL usrW us us.length).map (·.data.toList) ++ [(entT grpW noT g).data.toList] ++ (nmL grpW gs gs.length).map (·.data.toList) ++ [(entT mskW noT m).data.toList] else [(entT usrW noT u).data.toList] ++ (nmL usrW us us.length).map (·.data.toList) ++ [(entT grpW noT g).data.toList] ++ (nmL grpW gs gs.length).map (·.data.toList)) ++ [(entT othW noT o).data.toList] := by
    cases r <;> simp [Al.L, aclL]
  have hok : ∀ p, p = (entT usrW noT u).data.toList ∨ p = (entT grpW noT g).data.toList ∨ p = (entT mskW noT m).data.toList ∨ p = (entT othW noT o).data.toList → okE p = true ∧ (44 : UInt8) ∉ p := by
    rintro p (rfl | rfl | rfl | rfl)
    · exact ⟨by rw [u1]; decide, u2⟩
    · exact ⟨by rw [(hall alZ).1]; decide, (hall alZ).2.1⟩
    · exact ⟨by rw [(hallm alZ).1]; decide, (hallm alZ).2.1⟩
    · exact ⟨by rw [(hallo alZ).1]; decide, (hallo alZ).2.1⟩
  refine ⟨?_, ?_, by simpa [Al.L] using ln, by rw [hL]; simp⟩
  · rw [hL]
    cases r
    · have hm0 : m = 0 := by
        simp at hr
        exact hr.1
      simp only [Bool.false_eq_true, if_false, List.foldl_append, List.foldl_cons, List.foldl_nil]
      rw [e1, fu1, k1, (fg _).1, k3]
      simp [alZ, hm0]
    · simp only [if_true, List.foldl_append, List.foldl_cons, List.foldl_nil]
      rw [e1, fu1, k1, (fg _).1, k2, k3]
      simp [alZ]
  · intro p hp
    rw [hL] at hp
    cases r
    · simp only [Bool.false_eq_true, if_false, List.mem_append, List.mem_singleton] at hp
      rcases hp with (((hp | hp) | hp) | hp) | hp
      · exact hok p (.inl hp)
      · exact fu2 p hp
      · exact hok p (.inr (.inl hp))
      · exact (fg alZ).2 p hp
      · exact hok p (.inr (.inr (.inr hp)))
    · simp only [if_true, List.mem_append, List.mem_singleton] at hp
      rcases hp with ((((hp | hp) | hp) | hp) | hp) | hp
      · exact hok p (.inl hp)
      · exact fu2 p hp
      · exact hok p (.inr (.inl hp))
      · exact (fg alZ).2 p hp
      · exact hok p (.inr (.inr (.inl hp)))
      · exact hok p (.inr (.inr (.inr hp)))
/-- Pieces joined and cut again. -/
theorem spl_join : ∀ (ps : List (List UInt8)), ps ≠ [] → (∀ p ∈ ps, (44 : UInt8) ∉ p) → spl 44 (Lib.join ps [44]) = ps := by
  intro ps
  cases ps with
  | nil => intro h; exact absurd rfl h
  | cons x r =>
    intro _ hp
    rw [Lib.join_cons]
    have key : ∀ (r : List (List UInt8)), (∀ p ∈ r, (44 : UInt8) ∉ p) → ∀ y : List UInt8, (44 : UInt8) ∉ y → spl 44 (y ++ Lib.joinTail [44] r) = y :: r := by
      intro r
      induction r with
      | nil => intro _ y hy; simp [Lib.joinTail, spl_none hy]
      | cons z r ih =>
        intro hr y hy
        have e : y ++ Lib.joinTail [44] (z :: r) = y ++ 44 :: (z ++ Lib.joinTail [44] r) := by simp [Lib.joinTail]
        rw [e, spl_first hy, ih (fun p hp => hr p (by simp [hp])) z (hr z (by simp))]
    exact key r (fun p hp2 => hp p (by simp [hp2])) x (hp x (by simp))
theorem acl_text {a : Al} (h : a.B = true) : spl 44 a.T.data.toList = a.L := by
  have hb := acl_back h
  have e : a.T.data.toList = Lib.join a.L [44] := by
    have h2 : aclB a.u a.g a.o a.us a.gs a.r a.m = true := h
    rw [Al.T, aclT, if_pos h2, ← join_acl]
    rfl
  rw [e]
  exact spl_join _ hb.2.2.2 (fun p hp => (hb.2.1 p hp).2)
/-- What the program's loop, and the specification's, end in. -/
def rdS (t : List UInt8) : Al := ((spl 44 t).take 20).foldl entS alZ
def rdA (t : List UInt8) : Al := (spl 44 t).foldl entS alZ
theorem acl_key (t : List UInt8) : (∃ a : Al, a.B = true ∧ a.T.data.toList = t ∧ (∀ p ∈ spl 44 t, okE p = true) ∧ rdA t = a ∧ rdS t = a ∧ t ≠ []) ∨ (¬ ((∀ p ∈ spl 44 t, okE p = true) ∧ (rdA t).T.data.toList = t) ∧ (t = [] ∨ (rdS t).T.data.toList ≠ t)) := by
  by_cases h : ∃ a : Al, a.B = true ∧ a.T.data.toList = t
  · obtain ⟨a, h1, h2⟩ := h
    left
    have hb := acl_back h1
    have hs := acl_text h1
    rw [h2] at hs
    refine ⟨a, h1, h2, by rw [hs]; exact fun p hp => (hb.2.1 p hp).1, by rw [rdA, hs]; exact hb.1, by rw [rdS, hs, List.take_of_length_le (by have := hb.2.2.1; omega)]; exact hb.1, fun e => ?_⟩
    rw [e] at hs
    have h3 : spl 44 ([] : List UInt8) = [[]] := rfl
    rw [h3] at hs
    have := (hb.2.1 [] (by rw [← hs]; simp)).1
    revert this
    decide
  · right
    have key : ∀ a : Al, a.T.data.toList = t → t = [] := fun a e => by
      cases hb : a.B
      · have h2 : aclB a.u a.g a.o a.us a.gs a.r a.m = false := hb
        rw [Al.T, aclT, h2] at e
        exact e.symm
      · exact absurd ⟨a, hb, e⟩ h
    refine ⟨fun ⟨h1, h2⟩ => ?_, ?_⟩
    · have h0 := key _ h2
      subst h0
      have := h1 [] (by simp [spl, splS])
      revert this
      decide
    · by_cases h0 : t = []
      · exact .inl h0
      · exact .inr (fun e => h0 (key _ e))
end Go.Proofs.YtgooanaacebncaaDoor
