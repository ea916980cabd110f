/-
  Plain facts on scripts (stage 25): reading is the inverse of writing; a front is too short, a byte more is bad. Over any kind of inputs that has bytes, a reader and a check.
-/
namespace Go.Proofs.Ytpcfcbaapnkanaa.PS

abbrev Rd (α : Type) := List UInt8 → Except Int (α × List UInt8)
def Rd.pure {α : Type} (a : α) : Rd α := fun l => .ok (a, l)
def Rd.bind {α β : Type} (p : Rd α) (q : α → Rd β) : Rd β := fun l => match p l with
  | .error e => .error e
  | .ok (a, r) => q a r
def Rd.fail {α : Type} (e : Int) : Rd α := fun _ => .error e
/-- Read from exactly these bytes, and from no less. -/
def Reads {α : Type} (p : Rd α) (c : List UInt8) (a : α) : Prop := (∀ m, p (c ++ m) = .ok (a, m)) ∧ ∀ f, f <+: c → f ≠ c → p f = .error 3
theorem reads_pure {α : Type} (a : α) : Reads (Rd.pure a) [] a := by
  refine ⟨fun m => rfl, fun f hf hn => ?_⟩
  exact absurd (List.prefix_nil.1 hf) hn
theorem front_app {c d f : List UInt8} (h : f <+: c ++ d) : (f <+: c ∧ f ≠ c) ∨ ∃ g, f = c ++ g ∧ g <+: d := by
  obtain ⟨t, ht⟩ := h
  rcases List.append_eq_append_iff.1 ht with ⟨a, h1, h2⟩ | ⟨a, h1, h2⟩
  · by_cases ha : a = []
    · subst ha
      refine .inr ⟨[], by simpa using h1.symm, List.nil_prefix⟩
    · refine .inl ⟨⟨a, h1.symm⟩, fun e => ha ?_⟩
      subst e
      have := congrArg List.length h1
      simp at this
      first | exact this | exact List.eq_nil_of_length_eq_zero this
  · exact .inr ⟨a, h1, ⟨t, h2.symm⟩⟩
theorem reads_bind {α β : Type} {p : Rd α} {q : α → Rd β} {c d : List UInt8} {a : α} {b : β} (h1 : Reads p c a) (h2 : Reads (q a) d b) : Reads (Rd.bind p q) (c ++ d) b := by
  refine ⟨fun m => ?_, fun f hf hn => ?_⟩
  · unfold Rd.bind
    rw [List.append_assoc, h1.1 (d ++ m)]
    exact h2.1 m
  · unfold Rd.bind
    rcases front_app hf with ⟨h3, h4⟩ | ⟨g, rfl, hg⟩
    · rw [h1.2 f h3 h4]
    · rw [h1.1 g]
      exact h2.2 g hg (fun e => hn (by rw [e]))
/-- What is read is what was written. -/
def Back {α : Type} (p : Rd α) (enc : α → List UInt8) : Prop := ∀ l a r, p l = .ok (a, r) → l = enc a ++ r
theorem bind_ok {α β : Type} {p : Rd α} {q : α → Rd β} {l : List UInt8} {b : β} {r : List UInt8} (h : Rd.bind p q l = .ok (b, r)) : ∃ a m, p l = .ok (a, m) ∧ q a m = .ok (b, r) := by
  unfold Rd.bind at h
  split at h
  · cases h
  · next a m e => exact ⟨a, m, e, h⟩

-- single readers
def takeR (n : Nat) : Rd (List UInt8) := fun l => if n ≤ l.length then .ok (l.take n, l.drop n) else .error 3
theorem take_reads (c : List UInt8) : Reads (takeR c.length) c c := by
  refine ⟨fun m => ?_, fun f hf hn => ?_⟩
  · unfold takeR
    rw [if_pos (by simp), List.take_left, List.drop_left]
  · unfold takeR
    obtain ⟨t, rfl⟩ := hf
    rw [if_neg]
    intro h
    rw [List.length_append] at h
    have ht : t = [] := List.eq_nil_of_length_eq_zero (by omega)
    subst ht
    simp at hn
theorem take_back {n : Nat} {l a r : List UInt8} (h : takeR n l = .ok (a, r)) : l = a ++ r ∧ a.length = n := by
  unfold takeR at h
  split at h
  · next hn =>
    injection h with h
    injection h with h1 h2
    subst h1; subst h2
    exact ⟨(List.take_append_drop n l).symm, by rw [List.length_take]; omega⟩
  · cases h
def byteR : Rd Nat
  | [] => .error 3
  | c :: r => .ok (c.toNat, r)
theorem byte_reads (n : Nat) (hn : n < 256) : Reads byteR [UInt8.ofNat n] n := by
  refine ⟨fun m => ?_, fun f hf hne => ?_⟩
  · show Except.ok ((UInt8.ofNat n).toNat, m) = _
    rw [UInt8.toNat_ofNat_of_lt' hn]
  · cases f with
    | nil => rfl
    | cons x t =>
      obtain ⟨u, hu⟩ := hf
      simp at hu
      obtain ⟨rfl, rfl, rfl⟩ := hu
      exact absurd rfl hne
theorem byte_back {l r : List UInt8} {n : Nat} (h : byteR l = .ok (n, r)) : l = [UInt8.ofNat n] ++ r ∧ n < 256 := by
  cases l with
  | nil => cases h
  | cons c t =>
    injection h with h
    injection h with h1 h2
    subst h1; subst h2
    exact ⟨by simp, c.toNat_lt⟩
def num2 (n : Nat) : List UInt8 := [UInt8.ofNat (n / 256)] ++ ([UInt8.ofNat (n % 256)] ++ [])
def numR : Rd Nat := Rd.bind byteR fun a => Rd.bind byteR fun b => Rd.pure (a * 256 + b)
theorem num_reads (n : Nat) (hn : n < 65536) : Reads numR (num2 n) n := by
  refine reads_bind (byte_reads (n / 256) (by omega)) (reads_bind (byte_reads (n % 256) (by omega)) ?_)
  have e : n / 256 * 256 + n % 256 = n := by omega
  rw [e]
  exact reads_pure n
theorem num_back {l r : List UInt8} {n : Nat} (h : numR l = .ok (n, r)) : l = num2 n ++ r ∧ n < 65536 := by
  obtain ⟨a, m, h1, h2⟩ := bind_ok h
  obtain ⟨b, m2, h3, h4⟩ := bind_ok h2
  injection h4 with h4
  injection h4 with h5 h6
  obtain ⟨rfl, ha⟩ := byte_back h1
  obtain ⟨rfl, hb⟩ := byte_back h3
  subst h5; subst h6
  refine ⟨?_, by omega⟩
  unfold num2
  have e1 : (a * 256 + b) / 256 = a := by omega
  have e2 : (a * 256 + b) % 256 = b := by omega
  rw [e1, e2]
  simp
def listR {α : Type} (p : Rd α) : Nat → Rd (List α)
  | 0 => Rd.pure []
  | n + 1 => Rd.bind p fun a => Rd.bind (listR p n) fun t => Rd.pure (a :: t)
theorem list_reads {α : Type} (p : Rd α) (enc : α → List UInt8) : ∀ l : List α, (∀ a, a ∈ l → Reads p (enc a) a) → Reads (listR p l.length) (l.flatMap enc) l
  | [], _ => reads_pure []
  | a :: t, h => by
    have h1 := h a (List.mem_cons_self ..)
    have h2 := list_reads p enc t fun x hx => h x (List.mem_cons_of_mem _ hx)
    have h3 := reads_bind (q := fun a => Rd.bind (listR p t.length) fun t => Rd.pure (a :: t)) h1 (reads_bind (q := fun t => Rd.pure (a :: t)) h2 (reads_pure (a :: t)))
    rw [List.append_nil] at h3
    rw [List.flatMap_cons]
    exact h3
theorem list_back {α : Type} (p : Rd α) (enc : α → List UInt8) (ok : α → Prop) (hp : ∀ l a r, p l = .ok (a, r) → l = enc a ++ r ∧ ok a) : ∀ (n : Nat) (l : List UInt8) (x : List α) (r : List UInt8), listR p n l = .ok (x, r) → l = x.flatMap enc ++ r ∧ x.length = n ∧ ∀ a, a ∈ x → ok a
  | 0, l, x, r, h => by
    injection h with h
    injection h with h1 h2
    subst h1; subst h2
    exact ⟨by simp, rfl, fun a ha => by simp at ha⟩
  | n + 1, l, x, r, h => by
    obtain ⟨a, m, h1, h2⟩ := bind_ok h
    obtain ⟨t, m2, h3, h4⟩ := bind_ok h2
    injection h4 with h4
    injection h4 with h5 h6
    subst h5; subst h6
    obtain ⟨rfl, ha⟩ := hp _ _ _ h1
    obtain ⟨rfl, hl, ht⟩ := list_back p enc ok hp n _ _ _ h3
    refine ⟨by simp, by simp [hl], fun b hb => ?_⟩
    rcases List.mem_cons.1 hb with rfl | hb
    · exact ha
    · exact ht b hb

-- scripts
structure Kit (I : Type) where
  enc : I → List UInt8
  rd : List UInt8 → Except Int I
  chk : I → Int
  usr : List UInt8 → Bool
  rd_enc : ∀ x, chk x = 0 → rd (enc x) = .ok x
  enc_rd : ∀ l x, rd l = .ok x → enc x = l ∧ chk x = 0
  short : ∀ x, chk x = 0 → (enc x).length < 65536
  usr_len : ∀ b, usr b = true → b.length < 256
structure Stp (I : Type) where
  crash : Bool
  inp : I
  cuts : List Int
deriving DecidableEq
structure Scr (I : Type) where
  bot : List UInt8
  secs : Int
  steps : List (Stp I)
deriving DecidableEq
section
variable {I : Type} (K : Kit I)
def cutOut (c : Int) : Bool := decide (c < 0) || decide (600 < c)
def stepC (s : Stp I) : Int := if K.chk s.inp ≠ 0 then K.chk s.inp else if 0 < s.cuts.length ∧ s.crash = false then 2 else if 16 < s.cuts.length then 4 else if s.cuts.any cutOut = true then 2 else 0
/-- The first step that is not valid. -/
def stepsC : Nat → List (Stp I) → Nat × Int
  | _, [] => (0, 0)
  | k, s :: r => if stepC K s ≠ 0 then (k, stepC K s) else stepsC (k + 1) r
def scrC (s : Scr I) : Nat × Int := if K.usr s.bot = false then (0, 11) else if s.secs < 1 ∨ 1024 < s.secs then (0, 2) else if 300 < s.steps.length then (0, 4) else stepsC K 0 s.steps
def cutsB (l : List Int) : List UInt8 := [UInt8.ofNat l.length] ++ (l.map Int.toNat).flatMap num2
def stepB (s : Stp I) : List UInt8 := [UInt8.ofNat (if s.crash = true then 1 else 0)] ++ (num2 (K.enc s.inp).length ++ (K.enc s.inp ++ if s.crash = true then cutsB s.cuts else []))
def scrB (s : Scr I) : List UInt8 := [UInt8.ofNat s.bot.length] ++ (s.bot ++ (num2 s.secs.toNat ++ (num2 s.steps.length ++ s.steps.flatMap (stepB K))))
def recR (l : List UInt8) : Rd I := fun m => match K.rd l with
  | .error e => .error e
  | .ok x => .ok (x, m)
def cutsR : Rd (List Int) := Rd.bind byteR fun n => Rd.bind (listR numR n) fun l => Rd.pure (l.map Int.ofNat)
def stepR : Rd (Stp I) := Rd.bind byteR fun c => if 1 < c then Rd.fail 5 else Rd.bind numR fun n => Rd.bind (takeR n) fun t => Rd.bind (recR K t) fun x =>
  if c = 1 then Rd.bind cutsR fun l => Rd.pure ⟨true, x, l⟩ else Rd.pure ⟨false, x, []⟩
def scrR : Rd (Scr I) := Rd.bind byteR fun n => Rd.bind (takeR n) fun b => Rd.bind numR fun q => Rd.bind numR fun m => Rd.bind (listR (stepR K) m) fun l => Rd.pure ⟨b, q, l⟩
/-- What is read of bytes; 5: something follows. -/
def readS (l : List UInt8) : Except Int (Scr I) := match scrR K l with
  | .error e => .error e
  | .ok (s, r) => if r ≠ [] then .error 5 else if (scrC K s).2 ≠ 0 then .error (scrC K s).2 else .ok s
theorem cuts_map (l : List Int) (h : l.any cutOut = false) : (l.map Int.toNat).map Int.ofNat = l := by
  rw [List.map_map]
  have : ∀ c, c ∈ l → (Int.ofNat ∘ Int.toNat) c = c := fun c hc => by
    have h1 := List.any_eq_false.1 h c hc
    unfold cutOut at h1
    simp at h1
    simp
    omega
  rw [List.map_congr_left this]
  exact List.map_id'' (fun _ => rfl) l
theorem cuts_reads (l : List Int) (h1 : l.length ≤ 16) (h2 : l.any cutOut = false) : Reads cutsR (cutsB l) l := by
  have e : l.length = (l.map Int.toNat).length := by simp
  unfold cutsB
  refine reads_bind (byte_reads l.length (by omega)) ?_
  rw [e]
  have h3 := list_reads numR num2 (l.map Int.toNat) fun a ha => num_reads a (by
    obtain ⟨c, hc, rfl⟩ := List.mem_map.1 ha
    have h1 := List.any_eq_false.1 h2 c hc
    unfold cutOut at h1
    simp at h1
    omega)
  have h4 := reads_bind (q := fun l => Rd.pure (l.map Int.ofNat)) h3 (reads_pure ((l.map Int.toNat).map Int.ofNat))
  rw [cuts_map l h2, List.append_nil] at h4
  exact h4
theorem rec_reads (x : I) (h : K.chk x = 0) : Reads (recR K (K.enc x)) [] x := by
  refine ⟨fun m => ?_, fun f hf hn => absurd (List.prefix_nil.1 hf) hn⟩
  unfold recR
  rw [K.rd_enc x h]
  rfl
theorem stepC_ok {s : Stp I} (h : stepC K s = 0) : K.chk s.inp = 0 ∧ s.cuts.length ≤ 16 ∧ s.cuts.any cutOut = false ∧ (s.crash = false → s.cuts = []) := by
  unfold stepC at h
  split at h
  · next h1 => exact absurd h h1
  · next h1 =>
    split at h
    · cases h
    · next h2 =>
      split at h
      · cases h
      · next h3 =>
        split at h
        · cases h
        · next h4 =>
          refine ⟨by simpa using h1, by omega, by simpa using h4, fun hc => ?_⟩
          rcases Nat.eq_zero_or_pos s.cuts.length with h0 | h0
          · exact List.eq_nil_of_length_eq_zero h0
          · exact absurd ⟨h0, hc⟩ h2
theorem step_reads (s : Stp I) (h : stepC K s = 0) : Reads (stepR K) (stepB K s) s := by
  obtain ⟨h1, h2, h3, h4⟩ := stepC_ok K h
  obtain ⟨c, x, l⟩ := s
  cases c with
  | true =>
    show Reads _ ([UInt8.ofNat 1] ++ (num2 (K.enc x).length ++ (K.enc x ++ cutsB l))) _
    refine reads_bind (byte_reads 1 (by omega)) ?_
    rw [if_neg (by omega)]
    refine reads_bind (num_reads _ (K.short x h1)) (reads_bind (take_reads _) ?_)
    have h5 := reads_bind (q := fun l => Rd.pure (⟨true, x, l⟩ : Stp I)) (cuts_reads l h2 h3) (reads_pure _)
    rw [List.append_nil] at h5
    exact reads_bind (c := []) (rec_reads K x h1) h5
  | false =>
    obtain rfl : l = [] := h4 rfl
    show Reads _ ([UInt8.ofNat 0] ++ (num2 (K.enc x).length ++ (K.enc x ++ []))) _
    refine reads_bind (byte_reads 0 (by omega)) ?_
    rw [if_neg (by omega)]
    exact reads_bind (num_reads _ (K.short x h1)) (reads_bind (take_reads _) (reads_bind (c := []) (rec_reads K x h1) (reads_pure _)))
theorem stepsC_all : ∀ (k : Nat) (l : List (Stp I)), (stepsC K k l).2 = 0 → ∀ s, s ∈ l → stepC K s = 0
  | _, [], _, s, hs => by simp at hs
  | k, a :: r, h, s, hs => by
    unfold stepsC at h
    split at h
    · next h1 => exact absurd h h1
    · next h1 =>
      rcases List.mem_cons.1 hs with rfl | hs
      · simpa using h1
      · exact stepsC_all (k + 1) r h s hs
theorem scrC_ok {s : Scr I} (h : (scrC K s).2 = 0) : K.usr s.bot = true ∧ 1 ≤ s.secs ∧ s.secs ≤ 1024 ∧ s.steps.length ≤ 300 ∧ ∀ t, t ∈ s.steps → stepC K t = 0 := by
  unfold scrC at h
  split at h
  · cases h
  · next h1 =>
    split at h
    · cases h
    · next h2 =>
      split at h
      · cases h
      · next h3 => exact ⟨by simpa using h1, by omega, by omega, by omega, stepsC_all K 0 s.steps h⟩
theorem scr_reads (s : Scr I) (h : (scrC K s).2 = 0) : Reads (scrR K) (scrB K s) s := by
  obtain ⟨h1, h2, h3, h4, h5⟩ := scrC_ok K h
  obtain ⟨b, q, l⟩ := s
  have e : (q.toNat : Int) = q := by simp at h2; omega
  unfold scrB
  refine reads_bind (byte_reads _ (K.usr_len b h1)) (reads_bind (take_reads b) (reads_bind (num_reads q.toNat (by simp at h3; omega)) (reads_bind (num_reads l.length (by simp at h4; omega)) ?_)))
  have h6 := reads_bind (q := fun l => Rd.pure (⟨b, (q.toNat : Int), l⟩ : Scr I)) (list_reads (stepR K) (stepB K) l fun s hs => step_reads K s (h5 s hs)) (reads_pure _)
  rw [List.append_nil, e] at h6
  simp only [e]
  exact h6
/-- What was written is read. -/
theorem read_scr (s : Scr I) (h : (scrC K s).2 = 0) : readS K (scrB K s) = .ok s := by
  have h1 := (scr_reads K s h).1 []
  rw [List.append_nil] at h1
  unfold readS
  rw [h1]
  simp [h]
/-- A front is too short. -/
theorem read_front (s : Scr I) (h : (scrC K s).2 = 0) (k : Nat) (hk : k < (scrB K s).length) : readS K ((scrB K s).take k) = .error 3 := by
  unfold readS
  rw [(scr_reads K s h).2 _ (List.take_prefix _ _) (fun e => by
    have := congrArg List.length e
    rw [List.length_take] at this
    omega)]
/-- A byte more is bad. -/
theorem read_more (s : Scr I) (h : (scrC K s).2 = 0) (c : UInt8) : readS K (scrB K s ++ [c]) = .error 5 := by
  unfold readS
  rw [(scr_reads K s h).1 [c]]
  simp
theorem rec_back {t m r : List UInt8} {x : I} (h : recR K t m = .ok (x, r)) : m = r ∧ K.enc x = t ∧ K.chk x = 0 := by
  unfold recR at h
  split at h
  · cases h
  · next y e =>
    injection h with h
    injection h with h1 h2
    subst h1
    exact ⟨h2, K.enc_rd t y e⟩
theorem cuts_back {l r : List UInt8} {x : List Int} (h : cutsR l = .ok (x, r)) : l = cutsB x ++ r := by
  obtain ⟨n, m, h1, h2⟩ := bind_ok h
  obtain ⟨y, m2, h3, h4⟩ := bind_ok h2
  injection h4 with h4
  injection h4 with h5 h6
  obtain ⟨rfl, hn⟩ := byte_back h1
  obtain ⟨rfl, hl, _⟩ := list_back numR num2 (fun _ => True) (fun l a r h => ⟨(num_back h).1, trivial⟩) n _ _ _ h3
  subst h5; subst h6
  have e : (y.map Int.ofNat).map Int.toNat = y := by
    rw [List.map_map]
    exact (List.map_congr_left fun c _ => by simp).trans (List.map_id y)
  unfold cutsB
  rw [e, List.length_map, hl]
  simp
theorem step_back {l r : List UInt8} {s : Stp I} (h : stepR K l = .ok (s, r)) : l = stepB K s ++ r := by
  obtain ⟨c, m, h1, h2⟩ := bind_ok h
  obtain ⟨rfl, hc⟩ := byte_back h1
  split at h2
  · cases h2
  · next hc1 =>
    obtain ⟨n, m2, h3, h4⟩ := bind_ok h2
    obtain ⟨t, m3, h5, h6⟩ := bind_ok h4
    obtain ⟨x, m4, h7, h8⟩ := bind_ok h6
    obtain ⟨rfl, _⟩ := num_back h3
    obtain ⟨rfl, hl⟩ := take_back h5
    obtain ⟨rfl, hx, _⟩ := rec_back K h7
    split at h8
    · next e1 =>
      obtain ⟨y, m5, h9, h10⟩ := bind_ok h8
      injection h10 with h10
      injection h10 with h11 h12
      obtain rfl := cuts_back h9
      subst h11; subst h12; subst e1
      unfold stepB
      rw [hx, hl]
      simp
    · next e1 =>
      injection h8 with h8
      injection h8 with h11 h12
      obtain rfl : c = 0 := by omega
      subst h11; subst h12
      unfold stepB
      rw [hx, hl]
      simp
theorem scr_back {l r : List UInt8} {s : Scr I} (h : scrR K l = .ok (s, r)) : l = scrB K s ++ r := by
  obtain ⟨n, m, h1, h2⟩ := bind_ok h
  obtain ⟨b, m2, h3, h4⟩ := bind_ok h2
  obtain ⟨q, m3, h5, h6⟩ := bind_ok h4
  obtain ⟨k, m4, h7, h8⟩ := bind_ok h6
  obtain ⟨y, m5, h9, h10⟩ := bind_ok h8
  injection h10 with h10
  injection h10 with h11 h12
  obtain ⟨rfl, _⟩ := byte_back h1
  obtain ⟨rfl, hb⟩ := take_back h3
  obtain ⟨rfl, _⟩ := num_back h5
  obtain ⟨rfl, _⟩ := num_back h7
  obtain ⟨rfl, hl, _⟩ := list_back (stepR K) (stepB K) (fun _ => True) (fun l a r h => ⟨step_back K h, trivial⟩) k _ _ _ h9
  subst h11; subst h12
  unfold scrB
  rw [hb]
  simp [hl]
/-- What is read is valid, and has exactly these bytes. -/
theorem read_back {l : List UInt8} {s : Scr I} (h : readS K l = .ok s) : (scrC K s).2 = 0 ∧ scrB K s = l := by
  unfold readS at h
  split at h
  · cases h
  · next s2 r e =>
    split at h
    · cases h
    · next hr =>
      split at h
      · cases h
      · next hc =>
        injection h with h
        subst h
        have hr2 : r = [] := by simpa using hr
        subst hr2
        have := scr_back K e
        rw [List.append_nil] at this
        exact ⟨by simpa using hc, this.symm⟩
theorem stepsC_of : ∀ (k : Nat) (l : List (Stp I)), (∀ s, s ∈ l → stepC K s = 0) → stepsC K k l = (0, 0)
  | _, [], _ => rfl
  | k, a :: r, h => by
    unfold stepsC
    rw [if_neg (by simpa using h a (List.mem_cons_self ..))]
    exact stepsC_of (k + 1) r fun s hs => h s (List.mem_cons_of_mem _ hs)
theorem stepsC_zero (k : Nat) (l : List (Stp I)) (h : (stepsC K k l).2 = 0) : stepsC K k l = (0, 0) := stepsC_of K k l (stepsC_all K k l h)
/-- The step that is told is the first that is not valid. -/
theorem stepsC_first : ∀ (k : Nat) (l : List (Stp I)), (stepsC K k l).2 ≠ 0 → ∃ i, ∃ h : i < l.length, stepsC K k l = (k + i, stepC K l[i]) ∧ stepC K l[i] ≠ 0 ∧ ∀ s, s ∈ l.take i → stepC K s = 0
  | _, [], h => absurd rfl h
  | k, a :: r, h => by
    by_cases h1 : stepC K a ≠ 0
    · refine ⟨0, by simp, ?_, h1, fun s hs => by simp at hs⟩
      unfold stepsC
      rw [if_pos h1]
      rfl
    · have e : stepsC K k (a :: r) = stepsC K (k + 1) r := by
        show (if stepC K a ≠ 0 then _ else _) = _
        rw [if_neg h1]
      rw [e] at h
      obtain ⟨i, hi, h2, h3, h4⟩ := stepsC_first (k + 1) r h
      refine ⟨i + 1, by simp; omega, ?_, by simpa using h3, fun s hs => ?_⟩
      · rw [e, h2]
        have : k + 1 + i = k + (i + 1) := by omega
        rw [this]
        simp
      · rw [List.take_succ_cons] at hs
        rcases List.mem_cons.1 hs with rfl | hs
        · simpa using h1
        · exact h4 s hs
/-- The head alone. -/
theorem scrC_head (s : Scr I) (h : (scrC K ⟨s.bot, s.secs, []⟩).2 ≠ 0) : scrC K s = (0, (scrC K ⟨s.bot, s.secs, []⟩).2) := by
  unfold scrC at *
  simp only at *
  by_cases h1 : K.usr s.bot = false
  · rw [if_pos h1]; simp [h1]
  · rw [if_neg h1] at h
    by_cases h2 : s.secs < 1 ∨ 1024 < s.secs
    · rw [if_neg h1, if_pos h2]; simp [h1, h2]
    · rw [if_neg h2] at h
      exact absurd rfl h
theorem scrC_long (s : Scr I) (h : (scrC K ⟨s.bot, s.secs, []⟩).2 = 0) (hl : 300 < s.steps.length) : scrC K s = (0, 4) := by
  obtain ⟨h1, h2, h3, _⟩ := scrC_ok K h
  simp only at h1 h2 h3
  unfold scrC
  rw [if_neg (by simp [h1]), if_neg (by omega), if_pos hl]
theorem scrC_steps (s : Scr I) (h : (scrC K ⟨s.bot, s.secs, []⟩).2 = 0) (hl : s.steps.length ≤ 300) : scrC K s = stepsC K 0 s.steps := by
  obtain ⟨h1, h2, h3, _⟩ := scrC_ok K h
  simp only at h1 h2 h3
  unfold scrC
  rw [if_neg (by simp [h1]), if_neg (by omega), if_neg (by omega)]
theorem scrC_good (s : Scr I) (h : (scrC K s).2 = 0) : scrC K s = (0, 0) := by
  obtain ⟨h1, h2, h3, h4, h5⟩ := scrC_ok K h
  unfold scrC
  rw [if_neg (by simp [h1]), if_neg (by omega), if_neg (by omega)]
  exact stepsC_of K 0 s.steps h5
/-- The steps ahead are valid; the step alone is told at 0. -/
theorem scrC_wrong (s : Scr I) (h : (scrC K s).2 ≠ 0) (h0 : (scrC K ⟨s.bot, s.secs, []⟩).2 = 0) (hl : s.steps.length ≤ 300) :
    ∃ i, i < s.steps.length ∧ (scrC K s).1 = i ∧ (scrC K ⟨s.bot, s.secs, s.steps.take i⟩).2 = 0 ∧ scrC K ⟨s.bot, s.secs, (s.steps.drop i).take 1⟩ = (0, (scrC K s).2) := by
  rw [scrC_steps K s h0 hl] at h ⊢
  obtain ⟨i, hi, h2, h3, h4⟩ := stepsC_first K 0 s.steps h
  refine ⟨i, hi, by rw [h2]; simp, ?_, ?_⟩
  · rw [scrC_steps K ⟨s.bot, s.secs, s.steps.take i⟩ h0 (by simp; omega), stepsC_of K 0 _ h4]
  · rw [scrC_steps K ⟨s.bot, s.secs, (s.steps.drop i).take 1⟩ h0 (by simp; omega), h2]
    have e : (s.steps.drop i).take 1 = [s.steps[i]] := by
      rw [List.drop_eq_getElem_cons hi]; rfl
    rw [e]
    show (if stepC K s.steps[i] ≠ 0 then _ else _) = _
    rw [if_pos h3]
/-- A step less: valid, and shorter. -/
theorem scrC_less (s : Scr I) (h : (scrC K s).2 = 0) (k : Nat) : (scrC K ⟨s.bot, s.secs, s.steps.eraseIdx k⟩).2 = 0 := by
  obtain ⟨h1, h2, h3, h4, h5⟩ := scrC_ok K h
  have hl : (s.steps.eraseIdx k).length ≤ 300 := Nat.le_trans (List.length_eraseIdx_le _ _) h4
  unfold scrC
  rw [if_neg (by simp [h1]), if_neg (by simp only; omega), if_neg (by simp only; omega)]
  simp only
  rw [stepsC_of K 0 _ fun t ht => h5 t (List.mem_of_mem_eraseIdx ht)]
theorem flat_less (l : List (Stp I)) : ∀ k, k < l.length → ((l.eraseIdx k).flatMap (stepB K)).length < (l.flatMap (stepB K)).length := by
  induction l with
  | nil => intro k hk; simp at hk
  | cons a r ih =>
    intro k hk
    cases k with
    | zero =>
      simp only [List.eraseIdx_zero, List.tail_cons, List.flatMap_cons, List.length_append]
      have : 0 < (stepB K a).length := by unfold stepB; simp
      omega
    | succ k =>
      have := ih k (by simp at hk; omega)
      simp only [List.eraseIdx_cons_succ, List.flatMap_cons, List.length_append]
      omega
theorem scrB_less (s : Scr I) (k : Nat) (hk : k < s.steps.length) : (scrB K ⟨s.bot, s.secs, s.steps.eraseIdx k⟩).length < (scrB K s).length := by
  have := flat_less K s.steps k hk
  unfold scrB
  simp only [List.length_append, num2, List.length_cons, List.length_nil]
  omega
theorem scr_less_ne (s : Scr I) (k : Nat) (hk : k < s.steps.length) : s.steps.eraseIdx k ≠ s.steps := fun e => by
  have := congrArg List.length e
  rw [List.length_eraseIdx_of_lt hk] at this
  omega
/-- Bytes of a light script are few. -/
theorem cutsB_len (l : List Int) : (cutsB l).length = 1 + 2 * l.length := by
  unfold cutsB
  have : ∀ m : List Nat, (m.flatMap num2).length = 2 * m.length := fun m => by
    induction m with
    | nil => rfl
    | cons a r ih => rw [List.flatMap_cons, List.length_append, ih]; simp [num2]; omega
  rw [List.length_append, this]
  simp
theorem stepB_len (s : Stp I) : (stepB K s).length ≤ 4 + (K.enc s.inp).length + 2 * s.cuts.length := by
  unfold stepB
  simp only [List.length_append, num2, List.length_cons, List.length_nil]
  split
  · rw [cutsB_len]; omega
  · simp only [List.length_nil]; omega
end
end Go.Proofs.Ytpcfcbaapnkanaa.PS
